package subst_test

import (
	"math/rand/v2"
	"slices"
	"strconv"
	"testing"

	"lyceum/api"
	"lyceum/subst"
	"lyceum/syntax"
)

// renamed is a right formula in which each quantifier has a Name of its own that is nowhere else.
func renamed(f api.Form, count *int) api.Form {
	r := api.Form{Op: f.Op, Name: f.Name, Args: f.Args}
	for _, p := range f.Sub {
		if f.Op == api.OpAll || f.Op == api.OpSome {
			*count++
			r.Name = "w" + strconv.Itoa(*count)
			p = swapped(p, f.Name, r.Name)
		}
		r.Sub = append(r.Sub, renamed(p, count))
	}
	return r
}

// swapped is a formula with a variable that is nowhere in it for another one, where that one is free.
func swapped(f api.Form, name, other string) api.Form {
	if (f.Op == api.OpAll || f.Op == api.OpSome) && f.Name == name {
		return f
	}
	r := api.Form{Op: f.Op, Name: f.Name}
	for _, t := range f.Args {
		r.Args = append(r.Args, subst.PutTerm(t, []subst.One{{Name: name, Term: variable(other)}}))
	}
	for _, p := range f.Sub {
		r.Sub = append(r.Sub, swapped(p, name, other))
	}
	return r
}

// mustPut is what Puts makes of what it accepts.
func mustPut(t *testing.T, f api.Form, l []subst.One) api.Form {
	t.Helper()
	r, e := subst.Puts(f, l)
	if e != api.OK || !syntax.Right(r) {
		t.Fatalf("Puts(%v, %v) = %v, %d", f, l, r, e)
	}
	return r
}

// P3.4: no free variable of a term is bound where it is put, and nothing else changes.
func TestNothingIsCaptured(t *testing.T) {
	r := rand.New(rand.NewPCG(4, 3))
	for _, f := range someForms() {
		for range 10 {
			l := anyList(r)
			if got, want := nameless(mustPut(t, f, l), nil), nameless(f, l); got != want {
				t.Fatalf("%v with %v is %s, want %s", f, l, got, want)
			}
		}
	}
}

// P3.4: what is put for variables that are not free changes nothing; nor does x for x.
func TestPutNothing(t *testing.T) {
	r := rand.New(rand.NewPCG(5, 3))
	for _, f := range someForms() {
		free := subst.Free(f)
		var same, none []subst.One
		for _, name := range few {
			same = append(same, subst.One{Name: name, Term: variable(name)})
			if !slices.Contains(free, name) {
				none = append(none, subst.One{Name: name, Term: anyTerm(r, 3)})
			}
		}
		for _, l := range [][]subst.One{nil, same[:1], same[1:3], same, none} {
			if got := mustPut(t, f, l); spelt(got) != spelt(f) {
				t.Errorf("%v with %v is %v", f, l, got)
			}
		}
		// They do not matter beside others, either.
		l := slices.DeleteFunc(anyList(r), func(o subst.One) bool { return !slices.Contains(free, o.Name) })
		if got, want := mustPut(t, f, slices.Concat(none, l)), mustPut(t, f, l); spelt(got) != spelt(want) {
			t.Errorf("%v with %v and %v is %v, want %v", f, none, l, got, want)
		}
	}
}

// P3.4: putting y for x and then s for y can be exchanged.
func TestPutExchanged(t *testing.T) {
	r := rand.New(rand.NewPCG(6, 3))
	n := 0
	for _, f := range someForms() {
		for range 10 {
			p := r.Perm(len(few))
			x, y := few[p[0]], few[p[1]]
			u, s := anyTerm(r, 2), anyTerm(r, 2)
			if slices.Contains(subst.FreeTerm(s), x) {
				continue
			}
			n++
			l := []subst.One{{Name: y, Term: s}}
			a := mustPut(t, mustPut(t, f, []subst.One{{Name: x, Term: u}}), l)
			b := mustPut(t, mustPut(t, f, l), []subst.One{{Name: x, Term: subst.PutTerm(u, l)}})
			if !subst.Alpha(a, b) || nameless(a, nil) != nameless(b, nil) {
				t.Fatalf("%v with %v for %s and %v for %s: %v and %v", f, u, x, s, y, a, b)
			}
		}
	}
	if n < 1000 {
		t.Error(n)
	}
}

// P3.4: formulas that are equal up to bound names stay so, whatever is put.
func TestAlphaStays(t *testing.T) {
	r := rand.New(rand.NewPCG(7, 3))
	for _, f := range someForms() {
		g := renamed(f, new(int))
		h, e := subst.Normal(f)
		if e != api.OK || !subst.Alpha(f, g) || !subst.Alpha(g, f) || !subst.Alpha(f, h) || !subst.Alpha(g, h) {
			t.Fatalf("%v, %v, %v, %d", f, g, h, e)
		}
		if !slices.Equal(subst.Free(f), subst.Free(g)) || !slices.Equal(subst.Free(f), subst.Free(h)) {
			t.Errorf("%v, %v, %v", f, g, h)
		}
		for range 5 {
			l := anyList(r)
			a, b, c := mustPut(t, f, l), mustPut(t, g, l), mustPut(t, h, l)
			if !subst.Alpha(a, b) || !subst.Alpha(b, c) || !subst.Alpha(a, c) {
				t.Fatalf("%v, %v, %v with %v: %v, %v, %v", f, g, h, l, a, b, c)
			}
		}
	}
}

// P3.4: formulas are equal up to bound names if and only if they have the same normal form.
func TestNormalTells(t *testing.T) {
	l := someForms()[:150]
	for _, f := range l[:60] {
		l = append(l, renamed(f, new(int)))
	}
	for k := range 3 {
		l = append(l, form("all "+few[k]+" R(x,y)"), form("all "+few[k]+" all x R(x,y)"), form("all "+few[k]+" all y R(x,y)"))
	}
	var normal, text []string
	for _, f := range l {
		n, e := subst.Normal(f)
		if m, d := subst.Normal(n); e != api.OK || d != api.OK || spelt(m) != spelt(n) {
			t.Errorf("Normal(%v) = %v (%d), and its own is %v (%d)", f, n, e, m, d)
		}
		normal, text = append(normal, spelt(n)), append(text, nameless(f, nil))
	}
	equal := 0
	for i, f := range l {
		for k, g := range l {
			want := text[i] == text[k]
			if got := subst.Alpha(f, g); got != want || (normal[i] == normal[k]) != want {
				t.Fatalf("Alpha(%v, %v) = %v, want %v", f, g, got, want)
			}
			if want && i != k {
				equal++
			}
		}
	}
	if equal < 100 {
		t.Error(equal)
	}
}

// The following spoil all that a term, or a formula, has in memory, the spare capacity of its lists too.

func spoilTerms(l []api.Term) {
	for i, u := range l[:cap(l)] {
		spoilTerms(u.Args)
		l[:cap(l)][i] = api.Term{Name: "spoilt"}
	}
}

// spoilt spoils the parts of a formula one by one, and reports whether the spoiling of one changed another.
func spoilt(f api.Form) bool {
	changed := false
	for i, u := range f.Args[:cap(f.Args)] {
		rest := spelt(api.Form{Args: f.Args[i+1 : cap(f.Args)], Sub: f.Sub[:cap(f.Sub)]})
		changed = spoiltTerm(u) || changed
		f.Args[:cap(f.Args)][i] = api.Term{Name: "spoilt"}
		changed = changed || rest != spelt(api.Form{Args: f.Args[i+1 : cap(f.Args)], Sub: f.Sub[:cap(f.Sub)]})
	}
	for i, p := range f.Sub[:cap(f.Sub)] {
		rest := spelt(api.Form{Sub: f.Sub[i+1 : cap(f.Sub)]})
		changed = spoilt(p) || changed
		f.Sub[:cap(f.Sub)][i] = api.Form{Name: "spoilt"}
		changed = changed || rest != spelt(api.Form{Sub: f.Sub[i+1 : cap(f.Sub)]})
	}
	return changed
}

func spoiltTerm(u api.Term) bool { return spoilt(api.Form{Args: u.Args}) }

// roomy is a list with spare capacity.
func roomy[T any](l ...T) []T { return append(make([]T, 0, len(l)+5), l...) }

// shared is a formula and a list whose parts stand in the same memory, with spare capacity: some z ((R(u,u) & all y R(u,u)) & (R(u,u) & all y R(u,u))), where u is g(x, f(y)).
func shared() (api.Form, []subst.One) {
	u := api.Term{Name: "g", Args: roomy(variable("x"), api.Term{Name: "f", Args: roomy(variable("y"))})}
	r := api.Form{Op: api.OpAtom, Name: "R", Args: roomy(u, u)}
	q := api.Form{Op: api.OpAll, Name: "y", Sub: roomy(r)}
	f := api.Form{Op: api.OpAnd, Sub: roomy(r, q)}
	f = api.Form{Op: api.OpAnd, Sub: roomy(f, f)}
	f = api.Form{Op: api.OpSome, Name: "z", Sub: roomy(f)}
	return f, roomy(subst.One{Name: "y", Term: u}, subst.One{Name: "x", Term: u}, subst.One{Name: "z", Term: api.Term{Name: "a", Args: roomy[api.Term]()}})
}

// Results share no memory with arguments, and no parts of a result do; arguments stay as they are.
func TestMemory(t *testing.T) {
	for i, call := range []func(f api.Form, l []subst.One) api.Form{
		func(f api.Form, l []subst.One) api.Form { r, _ := subst.Puts(f, l); return r },
		func(f api.Form, l []subst.One) api.Form { r, _ := subst.Puts(f, l[:2]); return r },
		func(f api.Form, l []subst.One) api.Form { r, _ := subst.Puts(f, l[2:]); return r },
		func(f api.Form, l []subst.One) api.Form { r, _ := subst.Puts(f, nil); return r },
		func(f api.Form, l []subst.One) api.Form { r, _ := subst.Put(f, "x", l[0].Term); return r },
		func(f api.Form, l []subst.One) api.Form { r, _ := subst.Put(f, "v", l[0].Term); return r },
		func(f api.Form, _ []subst.One) api.Form { r, _ := subst.Normal(f); return r },
		func(_ api.Form, l []subst.One) api.Form {
			return api.Form{Args: []api.Term{subst.PutTerm(l[0].Term, l)}}
		},
		func(_ api.Form, l []subst.One) api.Form {
			return api.Form{Args: []api.Term{subst.PutTerm(l[0].Term, nil)}}
		},
		func(_ api.Form, l []subst.One) api.Form {
			return api.Form{Args: []api.Term{subst.PutTerm(variable("x"), l)}}
		},
		func(_ api.Form, l []subst.One) api.Form {
			return api.Form{Args: []api.Term{subst.PutTerm(variable("x"), append(roomy(l[1]), l...))}}
		},
		func(f api.Form, l []subst.One) api.Form { subst.Alpha(f, f); return api.Form{} },
		func(f api.Form, l []subst.One) api.Form { subst.Free(f); subst.Bound(f); return api.Form{} },
		func(_ api.Form, l []subst.One) api.Form { subst.FreeTerm(l[0].Term); return api.Form{} },
	} {
		f, l := shared()
		text := func() string {
			return spelt(f) + spelt(api.Form{Sub: f.Sub[:cap(f.Sub)]}) + speltList(l[:cap(l)]) + spelt(api.Form{Args: l[0].Term.Args[:cap(l[0].Term.Args)]})
		}
		want := text()
		got := call(f, l)
		if text() != want {
			t.Errorf("call %d changes its arguments", i)
		}
		if spoilt(got) {
			t.Errorf("call %d: parts of the result share memory", i)
		}
		if text() != want {
			t.Errorf("call %d: the result shares memory with the arguments", i)
		}
	}
}

// Calls do not depend on earlier ones, nor on whether empty lists are nil.
func TestNothingIsKept(t *testing.T) {
	r := rand.New(rand.NewPCG(8, 3))
	forms := someForms()
	for _, f := range forms[:200] {
		l, g := anyList(r), forms[r.IntN(len(forms))]
		put, normal := mustPut(t, f, l), subst.Alpha(f, g)
		subst.Normal(g)
		subst.Puts(g, anyList(r))
		filled := withEmptyLists(f)
		if got := mustPut(t, filled, l); spelt(got) != spelt(put) || subst.Alpha(filled, g) != normal || !subst.Alpha(f, filled) {
			t.Errorf("%v with %v is %v, and then %v", f, l, put, got)
		}
	}
	if len(subst.Free(form("P"))) != 0 || len(subst.Bound(form("P"))) != 0 || subst.Fresh([]string{}) != subst.Fresh(nil) {
		t.Error("empty lists")
	}
	if got := subst.PutTerm(api.Term{Var: true, Name: "x", Args: []api.Term{}}, []subst.One{}); speltTerm(got) != speltTerm(variable("x")) {
		t.Error(got)
	}
}

// withEmptyLists is a formula with empty lists instead of nil.
func withEmptyLists(f api.Form) api.Form {
	r := api.Form{Op: f.Op, Name: f.Name, Args: append([]api.Term{}, f.Args...), Sub: []api.Form{}}
	for _, p := range f.Sub {
		r.Sub = append(r.Sub, withEmptyLists(p))
	}
	return r
}

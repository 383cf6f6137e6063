package match_test

import (
	"math/rand/v2"
	"slices"
	"strconv"
	"testing"

	"lyceum/api"
	"lyceum/match"
)

// spelt is a text of all that a formula has in memory, the spare capacity of its lists too.
func spelt(f api.Form) string {
	s := strconv.Itoa(int(f.Op)) + strconv.Quote(f.Name) + "("
	for _, t := range f.Args[:cap(f.Args)] {
		s += speltTerm(t)
	}
	s += ")("
	for _, p := range f.Sub[:cap(f.Sub)] {
		s += spelt(p)
	}
	return s + ")"
}

func speltTerm(t api.Term) string {
	return strconv.FormatBool(t.Var) + spelt(api.Form{Name: t.Name, Args: t.Args})
}

func speltBinding(b match.Binding) string {
	s := ""
	for _, f := range b.Forms[:cap(b.Forms)] {
		s += strconv.Quote(f.Name) + spelt(f.Form)
	}
	s += "; "
	for _, t := range b.Terms[:cap(b.Terms)] {
		s += strconv.Quote(t.Name) + speltTerm(t.Term)
	}
	return s
}

// lists collects the first elements of all lists that a result has, with their spare capacity, and reports whether two of them are the same.
type lists struct {
	terms map[*api.Term]bool
	forms map[*api.Form]bool
	twice bool
}

func (l *lists) addTerms(u []api.Term) {
	if cap(u) == 0 {
		return
	}
	first := &u[:1][0]
	l.twice = l.twice || l.terms[first]
	l.terms[first] = true
	for _, t := range u[:cap(u)] {
		l.addTerms(t.Args)
	}
}

func (l *lists) add(f api.Form) {
	l.addTerms(f.Args)
	if cap(f.Sub) == 0 {
		return
	}
	first := &f.Sub[:1][0]
	l.twice = l.twice || l.forms[first]
	l.forms[first] = true
	for _, p := range f.Sub[:cap(f.Sub)] {
		l.add(p)
	}
}

// spoil spoils all that a formula has in memory.
func spoil(f api.Form) {
	spoilTerms(f.Args)
	for i, p := range f.Sub[:cap(f.Sub)] {
		spoil(p)
		f.Sub[:cap(f.Sub)][i] = api.Form{Name: "spoilt"}
	}
}

func spoilTerms(l []api.Term) {
	for i, t := range l[:cap(l)] {
		spoilTerms(t.Args)
		l[:cap(l)][i] = api.Term{Name: "spoilt"}
	}
}

// result is what a call gives.
type result struct {
	b match.Binding
	f api.Form
	t api.Term
	l []string
}

// alone reports whether no two lists of a result stand in the same memory.
func (r result) alone() bool {
	l := lists{terms: map[*api.Term]bool{}, forms: map[*api.Form]bool{}}
	l.add(r.f)
	l.addTerms(r.t.Args)
	for _, f := range r.b.Forms {
		l.add(f.Form)
	}
	for _, t := range r.b.Terms {
		l.addTerms(t.Term.Args)
	}
	return !l.twice
}

func (r result) spoil() {
	spoil(r.f)
	spoilTerms(r.t.Args)
	for i, f := range r.b.Forms[:cap(r.b.Forms)] {
		spoil(f.Form)
		r.b.Forms[:cap(r.b.Forms)][i] = match.FormBind{Name: "spoilt"}
	}
	for i, t := range r.b.Terms[:cap(r.b.Terms)] {
		spoilTerms(t.Term.Args)
		r.b.Terms[:cap(r.b.Terms)][i] = match.TermBind{Name: "spoilt"}
	}
	for i := range r.l[:cap(r.l)] {
		r.l[:cap(r.l)][i] = "spoilt"
	}
}

// roomy is a list with spare capacity.
func roomy[T any](l ...T) []T { return append(make([]T, 0, len(l)+3), l...) }

// roomyForm is a formula in memory with spare capacity, in which equal neighbours share it.
func roomyForm(f api.Form) api.Form {
	f.Args, f.Sub = roomyTerms(f.Args), roomy(f.Sub...)
	for i, p := range f.Sub {
		f.Sub[i] = roomyForm(p)
		if i > 0 && text(p) == text(f.Sub[i-1]) {
			f.Sub[i] = f.Sub[i-1]
		}
	}
	return f
}

func roomyTerms(l []api.Term) []api.Term {
	l = roomy(l...)
	for i, t := range l {
		l[i].Args = roomyTerms(t.Args)
		if i > 0 && t.Name == l[i-1].Name && len(t.Args) == len(l[i-1].Args) {
			l[i] = l[i-1]
		}
	}
	return l
}

func roomyBinding(s string) match.Binding {
	b := binding(s)
	b.Forms, b.Terms = roomy(b.Forms...), roomy(b.Terms...)
	for i, f := range b.Forms {
		b.Forms[i].Form = roomyForm(f.Form)
	}
	for i, t := range b.Terms {
		b.Terms[i].Term.Args = roomyTerms(t.Term.Args)
	}
	return b
}

// Results share no memory with arguments, and no parts of a result do; arguments stay as they are.
func TestMemory(t *testing.T) {
	type arguments struct {
		s, f api.Form
		l    []match.Pair
		b    match.Binding
	}
	for i, call := range []func(a arguments) result{
		func(a arguments) result { b, _ := match.Match(a.s, a.f, match.Binding{}); return result{b: b} },
		func(a arguments) result { b, _ := match.Match(a.s, a.f, a.b); return result{b: b} },
		func(a arguments) result { b, _, _ := match.Matches(a.l, match.Binding{}); return result{b: b} },
		func(a arguments) result { b, _, _ := match.Matches(a.l, a.b); return result{b: b} },
		func(a arguments) result { b, _, _ := match.Matches(nil, a.b); return result{b: b} },
		func(a arguments) result { f, _ := match.Fill(a.s, a.b); return result{f: f} },
		func(a arguments) result { f, _ := match.Fill(a.f, a.b); return result{f: f} },
		func(a arguments) result { f, _ := match.Fill(meta("?C"), a.b); return result{f: f} },
		func(a arguments) result {
			u, _ := match.FillTerm(function("h", variable("?t"), variable("?t"), a.b.Terms[0].Term), a.b)
			return result{t: u}
		},
		func(a arguments) result { u, _ := match.FillTerm(variable("?t"), a.b); return result{t: u} },
		func(a arguments) result { f, _ := match.Form(a.b, "?A"); return result{f: f} },
		func(a arguments) result { u, _ := match.Term(a.b, "?t"); return result{t: u} },
		func(a arguments) result { return result{l: match.Metas(a.s)} },
		func(a arguments) result { match.Valid(a.b); return result{} },
	} {
		var a arguments
		a.s = roomyForm(form("all x (?A & ?A) & (?A[?t/x] & ?A[?t/x]) & (P(?t, ?t) & P(?t, ?t)) & ?B"))
		a.f = roomyForm(form("all y (some z R(f(y), f(y)) & some z R(f(y), f(y))) & (some z R(f(g(x, f(y))), f(g(x, f(y)))) & some z R(f(g(x, f(y))), f(g(x, f(y))))) & (P(g(x, f(y)), g(x, f(y))) & P(g(x, f(y)), g(x, f(y)))) & (Q(f(x), f(x)) & Q(f(x), f(x)))"))
		a.b = roomyBinding("?A: some z R(f(?x), f(?x)); ?B: Q(f(x), f(x)) & Q(f(x), f(x)); ?C: P(f(a)) & P(f(a)); ?s: f(a, a); ?t: g(x, f(y))")
		a.l = roomy(match.Pair{Schema: a.s, Form: a.f}, match.Pair{Schema: a.s, Form: a.f}, match.Pair{Schema: meta("?D"), Form: a.f})
		if b, e := match.Match(a.s, a.f, match.Binding{}); e != api.OK || bindingText(b) != "?A: some z R(f(?x), f(?x)); ?B: Q(f(x), f(x)) & Q(f(x), f(x)); ?t: g(x, f(y))" {
			t.Fatal(bindingText(b), e)
		}
		all := func() string {
			s := spelt(a.s) + spelt(a.f) + speltBinding(a.b)
			for _, p := range a.l[:cap(a.l)] {
				s += spelt(p.Schema) + spelt(p.Form)
			}
			return s
		}
		want := all()
		got := call(a)
		if all() != want {
			t.Errorf("call %d changes its arguments", i)
		}
		if !got.alone() {
			t.Errorf("call %d: parts of the result share memory", i)
		}
		got.spoil()
		if all() != want {
			t.Errorf("call %d: the result shares memory with the arguments", i)
		}
	}
}

// emptied is a formula with empty lists instead of nil.
func emptied(f api.Form) api.Form {
	r := api.Form{Op: f.Op, Name: f.Name, Args: []api.Term{}, Sub: []api.Form{}}
	for _, t := range f.Args {
		r.Args = append(r.Args, api.Term{Var: t.Var, Name: t.Name, Args: emptied(api.Form{Args: t.Args}).Args})
	}
	for _, p := range f.Sub {
		r.Sub = append(r.Sub, emptied(p))
	}
	return r
}

// Calls do not depend on earlier ones, nor on whether empty lists are nil.
func TestNothingIsKept(t *testing.T) {
	d := drawer{rand.New(rand.NewPCG(7, 6))}
	for range 1000 {
		s := d.schema(3)
		f, b, ok := d.filled(s)
		if !ok {
			continue
		}
		r, e := match.Match(s, f, match.Binding{})
		match.Match(d.schema(3), d.form(3, false), d.binding(2, "?A", "?t"))
		match.Fill(d.schema(3), d.binding(2, "?A", "?B", "?s", "?t"))
		again, h := match.Match(emptied(s), emptied(f), match.Binding{Forms: []match.FormBind{}, Terms: []match.TermBind{}})
		if bindingText(r) != bindingText(again) || e != h {
			t.Fatalf("%s with %s: %q, %d, and then %q, %d", text(s), text(f), bindingText(r), e, bindingText(again), h)
		}
		for i := range b.Forms {
			b.Forms[i].Form = emptied(b.Forms[i].Form)
		}
		if g, e := match.Fill(emptied(s), b); e != api.OK || text(g) != text(f) {
			t.Fatalf("%s with %q: %s, and then %s, %d", text(s), bindingText(b), text(f), text(g), e)
		}
		if !slices.Equal(match.Metas(s), match.Metas(emptied(s))) {
			t.Fatal(text(s))
		}
	}
}

package syntax_test

import (
	"math"
	"math/rand/v2"
	"reflect"
	"strconv"
	"testing"

	"lyceum/api"
	"lyceum/syntax"
)

// everyPart is all parts of a formula, in order, with duplicates, and their places.
func everyPart(f api.Form) ([]api.Form, [][]int) {
	l, places := []api.Form{f}, [][]int{nil}
	for i, p := range f.Sub {
		below, ways := everyPart(p)
		l = append(l, below...)
		for _, w := range ways {
			places = append(places, append([]int{i}, w...))
		}
	}
	return l, places
}

// P2.3: Parts.
func TestParts(t *testing.T) {
	p, q, n := atom("P"), atom("Q"), api.Form{}
	px, pa := atom("P", variable("x")), atom("P", function("x"))
	for _, c := range []struct {
		f    api.Form
		want []api.Form
	}{
		{n, []api.Form{n}},
		{p, []api.Form{p}},
		{px, []api.Form{px}},
		{and(p, p), []api.Form{and(p, p), p}},
		{and(q, p), []api.Form{and(q, p), q, p}},
		{and(and(p, q), and(q, p)), []api.Form{and(and(p, q), and(q, p)), and(p, q), p, q, and(q, p)}},
		{and(not(p), and(p, not(p))), []api.Form{and(not(p), and(p, not(p))), not(p), p, and(p, not(p))}},
		{and(px, pa), []api.Form{and(px, pa), px, pa}},
		{and(all("x", p), some("x", p)), []api.Form{and(all("x", p), some("x", p)), all("x", p), p, some("x", p)}},
		{and(all("x", px), all("y", px)), []api.Form{and(all("x", px), all("y", px)), all("x", px), px, all("y", px)}},
		{op(77, p, n, p, q, n), []api.Form{op(77, p, n, p, q, n), p, n, q}},
		{inst("?A", variable("x"), variable("?t")), []api.Form{inst("?A", variable("x"), variable("?t"))}},
		{balanced(4), []api.Form{balanced(4), balanced(2), p}},
	} {
		if got := syntax.Parts(c.f); !same(got, c.want) {
			t.Errorf("Parts(%v) = %v, want %v", c.f, got, c.want)
		}
	}
	for _, f := range someForms() {
		var want []api.Form
		seen := map[string]bool{}
		every, _ := everyPart(f)
		for _, p := range every {
			if !seen[spelt(p)] {
				want = append(want, p)
			}
			seen[spelt(p)] = true
		}
		if got := syntax.Parts(f); !same(got, want) {
			t.Errorf("Parts(%v) = %v, want %v", f, got, want)
		}
	}
}

// P2.3: the parts of formulas of up to 1000 nodes are told, terms included; nothing beyond.
func TestManyParts(t *testing.T) {
	x := variable("x")
	many := func(n int) []api.Term { return make([]api.Term, n) }
	row := op(77)
	for i := range 998 {
		row.Sub = append(row.Sub, atom("P"+strconv.Itoa(i)))
	}
	wide := op(77, append(row.Sub, atom("Q"))...)
	for _, c := range []struct {
		f     api.Form
		parts int
	}{
		{nots(998, atom("P")), 999},
		{nots(999, atom("P")), 1000},
		{nots(1000, atom("P")), 0},
		{nots(1000, api.Form{}), 0},
		{nots(998, atom("P", x)), 999},
		{nots(999, atom("P", x)), 0},
		{nots(99, atom("P", wraps(899, x))), 100},
		{nots(99, atom("P", wraps(900, x))), 0},
		{row, 999},
		{wide, 1000},
		{not(wide), 0},
		{atom("P", many(999)...), 1},
		{atom("P", many(1000)...), 0},
		{op(77, make([]api.Form, 999)...), 2},
		{op(77, make([]api.Form, 1000)...), 0},
		{balanced(500), 15},
		{balanced(501), 0},
	} {
		got := syntax.Parts(c.f)
		if len(got) != c.parts {
			t.Errorf("%d nodes: %d parts, want %d", syntax.Nodes(c.f), len(got), c.parts)
		}
		if c.parts > 0 && !syntax.Same(got[0], c.f) {
			t.Error("the first part is not the formula")
		}
	}
}

// P2.3: At.
func TestAt(t *testing.T) {
	for _, f := range append(someForms(), example()) {
		every, places := everyPart(f)
		for i, place := range places {
			if got, e := syntax.At(f, place); spelt(got) != spelt(every[i]) || e != api.OK {
				t.Errorf("At(%v, %v) = %v, %d, want %v", f, place, got, e, every[i])
			}
			for _, out := range []int{-1, math.MinInt, math.MaxInt, len(every[i].Sub), len(every[i].Sub) + 1} {
				for _, behind := range [][]int{{out}, {out, 0}, {out, 0, -1}} {
					wrong := append(append([]int{}, place...), behind...)
					if got, e := syntax.At(f, wrong); !reflect.DeepEqual(got, api.Form{}) || e != api.ErrNone {
						t.Errorf("At(%v, %v) = %v, %d, want %d", f, wrong, got, e, api.ErrNone)
					}
				}
			}
		}
	}
	// Terms have no places.
	if got, e := syntax.At(atom("P", variable("x")), []int{0}); !reflect.DeepEqual(got, api.Form{}) || e != api.ErrNone {
		t.Error("At in a term:", got, e)
	}
}

// P2.3: With.
func TestWith(t *testing.T) {
	p, q, r := atom("P"), atom("Q"), atom("R", variable("x"))
	for _, c := range []struct {
		f     api.Form
		place []int
		part  api.Form
		want  api.Form
	}{
		{p, nil, q, q},
		{p, []int{}, q, q},
		{and(p, q), []int{0}, r, and(r, q)},
		{and(p, q), []int{1}, r, and(p, r)},
		{and(p, q), []int{1}, and(p, q), and(p, and(p, q))},
		{and(p, p), []int{1}, q, and(p, q)},
		{example(), []int{0, 1, 0}, r, some("x", and(atom("P", variable("x"), function("f", function("a"))), not(r)))},
		{all("x", p), []int{0}, r, all("x", r)},
		{all("x", not(p)), []int{0}, api.Form{}, all("x", api.Form{})},
		{op(77, p, p, p), []int{1}, op(88), op(77, p, op(88), p)},
		{not(not(p)), []int{0, 0}, not(not(p)), nots(4, p)},
		{not(not(p)), []int{0}, p, not(p)},
	} {
		if got, e := syntax.With(c.f, c.place, c.part); spelt(got) != spelt(c.want) || e != api.OK {
			t.Errorf("With(%v, %v, %v) = %v, %d, want %v", c.f, c.place, c.part, got, e, c.want)
		}
	}
	for _, c := range []struct {
		f     api.Form
		place []int
	}{
		{p, []int{0}}, {p, []int{-1}}, {r, []int{0}}, {not(p), []int{1}}, {not(p), []int{0, 0}}, {not(p), []int{-1}}, {and(p, q), []int{2}}, {and(p, q), []int{math.MinInt}}, {and(p, q), []int{math.MaxInt}},
		{and(p, not(q)), []int{1, 1}}, {and(p, not(q)), []int{0, 0}}, {and(p, not(q)), []int{2, 0}}, {api.Form{}, []int{0, 0}}, {example(), []int{0, 1, 0, 0}},
	} {
		if got, e := syntax.With(c.f, c.place, p); !reflect.DeepEqual(got, api.Form{}) || e != api.ErrNone {
			t.Errorf("With(%v, %v, P) = %v, %d, want %d", c.f, c.place, got, e, api.ErrNone)
		}
	}
}

// begins reports whether a place begins with another one.
func begins(place, with []int) bool {
	return len(place) >= len(with) && reflect.DeepEqual(append([]int{}, place[:len(with)]...), append([]int{}, with...))
}

// P2.5: what is put at a place is found there, all other places that do not begin with it stay as they are (but for what contains it), and putting back what was there gives the formula.
func TestPutAndFound(t *testing.T) {
	r := rand.New(rand.NewPCG(5, 5))
	for _, f := range someForms() {
		every, places := everyPart(f)
		if len(every) > 40 {
			continue
		}
		for i, place := range places {
			part := anyForm(r, 2)
			g, e := syntax.With(f, place, part)
			found, found2 := syntax.At(g, place)
			if e != api.OK || found2 != api.OK || spelt(found) != spelt(part) {
				t.Errorf("With(%v, %v, %v): %v is found there", f, place, part, found)
			}
			for j, other := range places {
				if begins(other, place) {
					continue
				}
				got, e := syntax.At(g, other)
				// What stands around the place has the same fields, and as many parts.
				was := every[j]
				if e != api.OK || got.Op != was.Op || got.Name != was.Name || len(got.Sub) != len(was.Sub) || !begins(place, other) && spelt(got) != spelt(was) {
					t.Errorf("With(%v, %v, %v): %v has become %v", f, place, part, was, got)
				}
			}
			if back, e := syntax.With(g, place, every[i]); spelt(back) != spelt(f) || e != api.OK {
				t.Errorf("%v is put back: %v, %d", f, back, e)
			}
		}
	}
}

// P2.4: Predicates and Functions.
func TestSymbols(t *testing.T) {
	x, a := variable("x"), function("a")
	type list = []syntax.Symbol
	for _, c := range []struct {
		f                     api.Form
		predicates, functions list
	}{
		{api.Form{}, nil, nil},
		{op(api.OpFalse), nil, nil},
		{atom("P"), list{{Name: "P", Arity: 0}}, nil},
		{and(atom("P"), atom("P")), list{{Name: "P", Arity: 0}}, nil},
		{and(atom("Q", x), and(atom("P", x, x), atom("P", a))), list{{Name: "P", Arity: 1}, {Name: "P", Arity: 2}, {Name: "Q", Arity: 1}}, list{{Name: "a", Arity: 0}}},
		{and(atom("P10"), and(atom("P2"), atom("P1"))), list{{Name: "P1", Arity: 0}, {Name: "P10", Arity: 0}, {Name: "P2", Arity: 0}}, nil},
		{all("x", not(atom("P", function("f", x, function("f", a))))), list{{Name: "P", Arity: 1}}, list{{Name: "a", Arity: 0}, {Name: "f", Arity: 1}, {Name: "f", Arity: 2}}},
		{and(atom("P", function("g", x)), atom("P", function("f", x), function("g", function("g")))), list{{Name: "P", Arity: 1}, {Name: "P", Arity: 2}}, list{{Name: "f", Arity: 1}, {Name: "g", Arity: 0}, {Name: "g", Arity: 1}}},
		{and(meta("?A"), inst("?A", x, variable("?t"))), nil, nil},
		{atom("P", x, variable("?t")), list{{Name: "P", Arity: 2}}, nil},
		// Formulas that are not right: what is an OpAtom counts, and all terms, wherever they are.
		{api.Form{Op: 77, Name: "P", Args: []api.Term{a}, Sub: []api.Form{{Op: api.OpAtom, Sub: []api.Form{atom("Q")}}}}, list{{Name: "", Arity: 0}, {Name: "Q", Arity: 0}}, list{{Name: "a", Arity: 0}}},
		{atom("P", api.Term{Var: true, Name: "x", Args: []api.Term{a, {}}}), list{{Name: "P", Arity: 1}}, list{{Name: "", Arity: 0}, {Name: "a", Arity: 0}}},
		{atom("P", make([]api.Term, 6)...), list{{Name: "P", Arity: 6}}, list{{Name: "", Arity: 0}}},
		{inst("?A", function("b"), a), nil, list{{Name: "a", Arity: 0}, {Name: "b", Arity: 0}}},
	} {
		if got := syntax.Predicates(c.f); len(got)+len(c.predicates) > 0 && !reflect.DeepEqual(got, c.predicates) {
			t.Errorf("Predicates(%v) = %v, want %v", c.f, got, c.predicates)
		}
		if got := syntax.Functions(c.f); len(got)+len(c.functions) > 0 && !reflect.DeepEqual(got, c.functions) {
			t.Errorf("Functions(%v) = %v, want %v", c.f, got, c.functions)
		}
	}
}

// P2.4: against lists that are collected in a way of their own.
func TestSymbolsOfMany(t *testing.T) {
	for _, f := range someForms() {
		predicates, functions := map[syntax.Symbol]bool{}, map[syntax.Symbol]bool{}
		every, _ := everyPart(f)
		for _, p := range every {
			if p.Op == api.OpAtom {
				predicates[syntax.Symbol{Name: p.Name, Arity: len(p.Args)}] = true
			}
			for _, u := range p.Args {
				collect(u, functions)
			}
		}
		for i, c := range []struct {
			got  []syntax.Symbol
			want map[syntax.Symbol]bool
		}{{syntax.Predicates(f), predicates}, {syntax.Functions(f), functions}} {
			ok := len(c.got) == len(c.want)
			for k, s := range c.got {
				ok = ok && c.want[s] && (k == 0 || c.got[k-1].Name < s.Name || c.got[k-1].Name == s.Name && c.got[k-1].Arity < s.Arity)
			}
			if !ok {
				t.Errorf("list %d of %v is %v, want the elements of %v", i, f, c.got, c.want)
			}
		}
	}
}

func collect(u api.Term, l map[syntax.Symbol]bool) {
	if !u.Var {
		l[syntax.Symbol{Name: u.Name, Arity: len(u.Args)}] = true
	}
	for _, a := range u.Args {
		collect(a, l)
	}
}

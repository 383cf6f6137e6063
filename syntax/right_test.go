package syntax_test

import (
	"math/rand/v2"
	"strings"
	"testing"

	"lyceum/api"
	"lyceum/syntax"
)

// judged is whether a formula is right, and whether it is as a schema.
func judged(f api.Form) [2]bool { return [2]bool{syntax.Right(f), syntax.Schema(f)} }

// What judged may be.
var (
	right  = [2]bool{true, true}
	schema = [2]bool{false, true}
	wrong  = [2]bool{false, false}
)

// P2.1: Term.
func TestTerm(t *testing.T) {
	x, a := variable("x"), function("a")
	long := strings.Repeat("1", 15)
	for _, u := range []api.Term{
		x, a, variable("u99"), {Name: "f", Args: []api.Term{}}, {Var: true, Name: "x", Args: []api.Term{}}, variable("x" + long), function("f" + long),
		function("f", x), function("f", x, x, a, a), function("f", function("g", function("f", x)), a), wraps(1000, x),
		function("f", function("f", x, x, x, x), function("f")), function("next1", x),
	} {
		if !syntax.Term(u) {
			t.Errorf("%v is right", u)
		}
	}
	for _, u := range []api.Term{
		{}, {Var: true}, {Name: "x"}, {Var: true, Name: "a"}, variable("P"), function("P"), variable("xy"), function("next"), function("u"),
		{Var: true, Name: "x", Args: []api.Term{x}}, {Var: true, Name: "f", Args: []api.Term{x}}, {Name: "x", Args: []api.Term{x}},
		function("f", a, a, a, a, a), function("f", api.Term{}), function("f", x, variable("a")), function("f", a, function("g", a, function("x"))), function("f", a, a, a, function("g", a, a, a, a, a)),
		variable("?t"), function("?t"), variable("?A"), function("f", variable("?t")), function("?t", x), wraps(1000, variable("a")),
		variable("x1" + long), function("f1" + long), variable("x\x00"), function("all"), function("f", variable("until")),
	} {
		if syntax.Term(u) {
			t.Errorf("%v is not right", u)
		}
	}
}

// P2.1: terms in schemas, as what a predicate has, and within functions.
func TestTermInSchema(t *testing.T) {
	for _, c := range []struct {
		u    api.Term
		want [2]bool
	}{
		{variable("x"), right}, {function("a"), right},
		{variable("?t"), schema}, {variable("?next1"), schema}, {api.Term{Var: true, Name: "?t", Args: []api.Term{}}, schema},
		{variable("?A"), wrong}, {function("?t"), wrong}, {variable("?x"), wrong}, {variable("?"), wrong}, {variable("?next"), wrong}, {variable("a"), wrong},
		{api.Term{Var: true, Name: "?t", Args: []api.Term{variable("x")}}, wrong}, {function("?t", variable("x")), wrong},
	} {
		for _, f := range []api.Form{
			atom("P", c.u), atom("P", variable("x"), c.u, variable("x")), atom("P", function("f", c.u)), atom("P", function("f", function("a"), function("g", c.u))),
			not(atom("P", c.u)), all("x", and(atom("P"), atom("P", c.u))),
		} {
			if got := judged(f); got != c.want {
				t.Errorf("%v: %v, want %v", f, got, c.want)
			}
		}
	}
}

// rowsOf is what the rows of the chapter say: a right Name, and the least and greatest number of Args, and the number of Sub.
var rowsOf = []struct {
	op               uint8
	name             string
	least, most, sub int
	want             [2]bool
}{
	{api.OpAtom, "P", 0, 4, 0, right},
	{api.OpFalse, "", 0, 0, 0, right},
	{api.OpNot, "", 0, 0, 1, right},
	{api.OpAnd, "", 0, 0, 2, right},
	{api.OpOr, "", 0, 0, 2, right},
	{api.OpImp, "", 0, 0, 2, right},
	{api.OpIff, "", 0, 0, 2, right},
	{api.OpAll, "x", 0, 0, 1, right},
	{api.OpSome, "x", 0, 0, 1, right},
	{api.OpBox, "", 0, 0, 1, right},
	{api.OpDia, "", 0, 0, 1, right},
	{api.OpNext, "", 0, 0, 1, right},
	{api.OpAlways, "", 0, 0, 1, right},
	{api.OpUntil, "", 0, 0, 2, right},
	{api.OpMeta, "?A", 0, 0, 0, schema},
	{api.OpInst, "?A", 2, 2, 0, schema},
}

// instArgs is right Args of any number; two of them are those of an OpInst.
func instArgs(n int) []api.Term {
	return []api.Term{variable("x"), variable("?t"), variable("x"), variable("x"), variable("x"), variable("x")}[:n]
}

// plainArgs is right Args of any number, also outside of schemas.
func plainArgs(n int) []api.Term {
	l := make([]api.Term, n)
	for i := range l {
		l[i] = variable("x")
	}
	return l
}

// P2.1: each row, with any numbers of Args and Sub.
func TestRows(t *testing.T) {
	for _, r := range rowsOf {
		for args := range 7 {
			for subs := range 4 {
				f := api.Form{Op: r.op, Name: r.name, Args: plainArgs(args), Sub: make([]api.Form, subs)}
				if r.op == api.OpInst {
					f.Args = instArgs(args)
				}
				for i := range f.Sub {
					f.Sub[i] = atom("Q")
				}
				want := wrong
				if args >= r.least && args <= r.most && subs == r.sub {
					want = r.want
				}
				if got := judged(f); got != want {
					t.Errorf("the operator %d with %d Args and %d Sub: %v, want %v", r.op, args, subs, got, want)
				}
			}
		}
	}
}

// P2.1: each row, with Names of all sorts.
func TestRowNames(t *testing.T) {
	sorts := map[string]string{"P": "P", "Even2": "P", "x": "x", "u10": "x", "": "", "?A": "?A", "?Even2": "?A", "?t": "", "a": "", "all": "", "?": "", "?all": "", "P_": "", "p": "", "P2345678901234567": "", "?P234567890123456": "", "x2345678901234567": ""}
	for _, r := range rowsOf {
		for name, sort := range sorts {
			f := api.Form{Op: r.op, Name: name, Args: instArgs(r.least)}
			for range r.sub {
				f.Sub = append(f.Sub, atom("Q"))
			}
			want := wrong
			if name == r.name || sort == r.name && sort != "" {
				want = r.want
			}
			if got := judged(f); got != want {
				t.Errorf("the operator %d with the Name %q: %v, want %v", r.op, name, got, want)
			}
		}
	}
}

// P2.1: numbers that are no operator have no row.
func TestNoRow(t *testing.T) {
	for k := range 256 {
		if k >= 1 && k <= 16 {
			continue
		}
		for _, name := range []string{"", "P", "x", "?A"} {
			for subs := range 3 {
				f := api.Form{Op: uint8(k), Name: name}
				for range subs {
					f.Sub = append(f.Sub, atom("Q"))
				}
				if got := judged(f); got != wrong {
					t.Errorf("the operator %d with the Name %q and %d Sub: %v", k, name, subs, got)
				}
			}
		}
	}
}

// P2.1: what an OpInst has.
func TestInst(t *testing.T) {
	x, u := variable("x"), variable("?t")
	for _, c := range []struct {
		f    api.Form
		want [2]bool
	}{
		{inst("?A", x, u), schema},
		{inst("?A", variable("z7"), variable("?a1")), schema},
		{inst("?A", u, x), wrong},
		{inst("?A", x, x), wrong},
		{inst("?A", u, u), wrong},
		{inst("?A", function("a"), u), wrong},
		{inst("?A", x, function("a")), wrong},
		{inst("?A", x, variable("?A")), wrong},
		{inst("?A", function("x"), u), wrong},
		{inst("?A", x, function("?t")), wrong},
		{inst("?A", api.Term{Var: true, Name: "x", Args: []api.Term{x}}, u), wrong},
		{inst("?A", x, api.Term{Var: true, Name: "?t", Args: []api.Term{x}}), wrong},
		{inst("?t", x, u), wrong},
		{inst("P", x, u), wrong},
		{inst("?A"), wrong},
	} {
		for _, f := range []api.Form{c.f, not(c.f), and(atom("P"), some("x", c.f))} {
			if got := judged(f); got != c.want {
				t.Errorf("%v: %v, want %v", f, got, c.want)
			}
		}
	}
}

// P2.1: a part that is wrong makes the formula wrong, wherever it stands; a part that is right in schemas alone likewise.
func TestPartsOfRight(t *testing.T) {
	for _, c := range []struct {
		f    api.Form
		want [2]bool
	}{{atom("P"), right}, {meta("?A"), schema}, {atom("p"), wrong}, {api.Form{}, wrong}, {all("a", atom("P")), wrong}, {op(17, atom("P")), wrong}, {all("?t", atom("P")), wrong}} {
		for _, r := range rowsOf {
			for i := range r.sub {
				f := api.Form{Op: r.op, Name: r.name, Sub: make([]api.Form, r.sub)}
				for j := range f.Sub {
					f.Sub[j] = atom("Q")
				}
				f.Sub[i] = c.f
				if got := judged(f); got != c.want {
					t.Errorf("%v: %v, want %v", f, got, c.want)
				}
				if got := judged(and(nots(5, f), atom("P"))); got != c.want {
					t.Errorf("%v within others: %v, want %v", f, got, c.want)
				}
			}
		}
	}
}

// P2.1: at most 400 nodes, of parts and of terms.
func TestManyNodes(t *testing.T) {
	four := plainArgs(4)
	f16 := function("f", function("f", four...), function("f", four...), function("f", four...), variable("x")) // 17 nodes
	for _, c := range []struct {
		f     api.Form
		nodes int
		want  [2]bool
	}{
		{balanced(200), 399, right},
		{not(balanced(200)), 400, right},
		{balanced(201), 401, wrong},
		{not(not(balanced(200))), 401, wrong},
		{and(balanced(197), atom("P", variable("x"), variable("x"), variable("x"), variable("x"))), 399, right},
		{and(balanced(197), atom("P", function("f", four...))), 400, right},
		{and(balanced(197), atom("P", function("f", four...), variable("x"))), 401, wrong},
		{and(balanced(181), atom("P", f16, f16)), 397, right},
		{and(balanced(182), not(atom("P", f16, f16))), 400, right},
		{and(balanced(183), atom("P", f16, f16)), 401, wrong},
		{and(balanced(181), atom("P", f16, f16, function("f", variable("?t")), variable("?t"))), 400, schema},
		{and(balanced(181), atom("P", f16, f16, function("f", variable("?t"), variable("x")), variable("?t"))), 401, wrong},
		{and(balanced(198), inst("?A", variable("x"), variable("?t"))), 399, schema},
		{and(not(balanced(198)), inst("?A", variable("x"), variable("?t"))), 400, schema},
		{and(balanced(199), inst("?A", variable("x"), variable("?t"))), 401, wrong},
		{balanced(5000), 9999, wrong},
	} {
		if got := syntax.Nodes(c.f); got != c.nodes {
			t.Errorf("Nodes: %d, want %d", got, c.nodes)
		}
		if got := judged(c.f); got != c.want {
			t.Errorf("%d nodes: %v, want %v", c.nodes, got, c.want)
		}
	}
}

// P2.1: a depth of at most 40, through parts and terms.
func TestGreatDepth(t *testing.T) {
	for n := range 60 {
		want, wantSchema := wrong, wrong
		if n+1 <= 40 {
			want = right
		}
		if n+2 <= 40 {
			wantSchema = schema
		}
		for k := range min(n, 45) + 1 {
			f := nots(n, atom("P"))
			if k > 0 {
				f = nots(n-k, atom("P", variable("x"), wraps(k-1, variable("x"))))
			}
			if got := judged(f); got != want || syntax.Depth(f) != n+1 {
				t.Errorf("a depth of %d, %d of it in a term: %v, want %v", n+1, k, got, want)
			}
		}
		if got := judged(nots(n, inst("?A", variable("x"), variable("?t")))); got != wantSchema {
			t.Errorf("a schema with the depth %d: %v, want %v", n+2, got, wantSchema)
		}
	}
}

// P2.1: formulas that are far beyond the limits are told as fast as others, even where each part stands in memory once, and there are more nodes than could be counted.
func TestRightEndsSoon(t *testing.T) {
	f, u := atom("P"), variable("x")
	for range 200 {
		f = and(f, f)
		u = function("f", u, u)
	}
	for _, g := range []api.Form{f, atom("P", u)} {
		if judged(g) != wrong || syntax.Parts(g) != nil {
			t.Error("a huge formula is right, or has parts")
		}
	}
}

// P2.5: a part of a right formula is right.
func TestPartsAreRight(t *testing.T) {
	r := rand.New(rand.NewPCG(5, 1))
	for range 300 {
		f := rightForm(r, 5)
		if judged(f) != right {
			t.Fatalf("%v is right", f)
		}
		for _, p := range syntax.Parts(f) {
			if judged(p) != right {
				t.Errorf("%v, a part of %v, is right", p, f)
			}
		}
	}
}

package syntax_test

import (
	"math/rand/v2"
	"testing"

	"lyceum/api"
	"lyceum/syntax"
)

// counted is the number of nodes and the depth, told in a way of its own.
func counted(f api.Form) (nodes, depth int) {
	nodes = 1
	for _, t := range f.Args {
		n, d := countedTerm(t)
		nodes, depth = nodes+n, max(depth, d)
	}
	for _, p := range f.Sub {
		n, d := counted(p)
		nodes, depth = nodes+n, max(depth, d)
	}
	return nodes, depth + 1
}

func countedTerm(t api.Term) (nodes, depth int) {
	nodes = 1
	for _, a := range t.Args {
		n, d := countedTerm(a)
		nodes, depth = nodes+n, max(depth, d)
	}
	return nodes, depth + 1
}

// P2.2: Nodes, Depth.
func TestNodesAndDepth(t *testing.T) {
	x := variable("x")
	for _, c := range []struct {
		f            api.Form
		nodes, depth int
	}{
		{api.Form{}, 1, 1},
		{atom("P"), 1, 1},
		{op(api.OpFalse), 1, 1},
		{meta("?A"), 1, 1},
		{atom("P", x), 2, 2},
		{all("x", atom("P")), 2, 2},
		{inst("?A", x, variable("?t")), 3, 2},
		{and(atom("P"), atom("Q")), 3, 2},
		{and(atom("P"), not(atom("Q"))), 4, 3},
		{and(not(not(atom("P"))), atom("P", wraps(4, x))), 10, 7},
		{and(atom("P", x, wraps(2, x)), not(atom("Q"))), 8, 5},
		{nots(70, atom("P")), 71, 71},
		{balanced(2000), 3999, 12},
		// Neither is right, but all that is there counts.
		{api.Form{Op: 77, Args: []api.Term{x}, Sub: []api.Form{atom("P"), atom("P"), atom("P")}}, 5, 2},
		{atom("P", api.Term{Var: true, Name: "x", Args: []api.Term{x}}), 3, 3},
	} {
		if n, d := syntax.Nodes(c.f), syntax.Depth(c.f); n != c.nodes || d != c.depth {
			t.Errorf("%v has %d nodes and the depth %d, want %d and %d", c.f, n, d, c.nodes, c.depth)
		}
	}
	for _, f := range someForms() {
		nodes, depth := counted(f)
		if n, d := syntax.Nodes(f), syntax.Depth(f); n != nodes || d != depth {
			t.Errorf("%v has %d nodes and the depth %d, want %d and %d", f, n, d, nodes, depth)
		}
	}
}

// P2.2: Ops.
func TestOps(t *testing.T) {
	for k := range 256 {
		want := uint32(0)
		if k < 32 {
			want = 1 << k
		}
		if got := syntax.Ops(op(uint8(k))); got != want {
			t.Errorf("the operator %d: %b, want %b", k, got, want)
		}
		if got := syntax.Ops(and(atom("P"), not(op(uint8(k), op(api.OpFalse))))); got != want|1<<api.OpAtom|1<<api.OpFalse|1<<api.OpNot|1<<api.OpAnd {
			t.Errorf("the operator %d within others: %b", k, got)
		}
	}
	if got := syntax.Ops(example()); got != 1<<api.OpAtom|1<<api.OpNot|1<<api.OpAnd|1<<api.OpSome {
		t.Errorf("the example: %b", got)
	}
}

// termsInOrder is terms, each one ahead of the next ones.
func termsInOrder() []api.Term {
	x, y, a := variable("x"), variable("y"), function("a")
	return []api.Term{
		{Var: true}, variable("?t"), variable("a"), x, {Var: true, Name: "x", Args: []api.Term{a}}, {Var: true, Name: "x", Args: []api.Term{x, x}}, variable("x1"), variable("x10"), variable("x2"), y, variable("\xff"),
		{}, function("?t"), function("A"), a, function("a", x), function("a", y), function("a", a), function("a", function("a", x)), function("a", function("a", y)),
		function("a", x, x), function("a", x, y), function("a", x, a), function("a", y, x), function("a", a, x), function("a", a, a), function("a", x, x, x), function("a", x, x, x, x, x),
		function("aa"), function("b"), function("b", x), function("x"), function("\xff"),
	}
}

// formsInOrder is formulas, each one ahead of the next ones.
func formsInOrder() []api.Form {
	x := variable("x")
	p, q, n := atom("P"), atom("Q"), api.Form{}
	l := []api.Form{
		n, op(0, n), op(0, p), op(0, n, n), {Args: []api.Term{x}}, {Args: []api.Term{x}, Sub: []api.Form{n}}, {Name: "P"},
		{Op: 1}, op(1, n, n, n), {Op: 1, Args: []api.Term{x}}, atom("\x00"), atom("A"), atom("A1"), atom("B"),
		p, {Op: 1, Name: "P", Sub: []api.Form{q}}, {Op: 1, Name: "P", Sub: []api.Form{n, n}}, {Op: 1, Name: "P", Sub: []api.Form{n, p}}, {Op: 1, Name: "P", Sub: []api.Form{p, n}},
	}
	for _, u := range termsInOrder() {
		l = append(l, atom("P", u), api.Form{Op: 1, Name: "P", Args: []api.Term{u}, Sub: []api.Form{q}})
	}
	return append(l,
		atom("P", x, x), atom("P", x, function("a")), atom("P", function("a"), x), atom("P", x, x, x), atom("P1"), q, atom("\xff"),
		op(api.OpFalse), not(p), not(q), not(op(api.OpFalse)), not(not(p)), op(api.OpNot, n, n), api.Form{Op: api.OpNot, Name: "P"},
		and(p, p), and(p, q), and(p, not(p)), and(q, p), and(not(p), p), and(not(p), q), and(not(q), n), op(api.OpOr, p, p), op(api.OpImp, p, p), op(api.OpIff, p, p),
		all("x", p), all("x", q), all("y", p), some("x", p), op(api.OpBox, p), op(api.OpDia, p), op(api.OpNext, p), op(api.OpAlways, p), op(api.OpUntil, p, p),
		meta("?A"), meta("?B"), inst("?A", x, variable("?t")), inst("?A", variable("y"), variable("?t")), op(17), op(255), op(255, p),
	)
}

// side is -1, 0 or 1: how two places in a list are.
func side(i, j int) int {
	if i < j {
		return -1
	}
	return min(i-j, 1)
}

// P2.2: Compare and Same of each pair of a list whose order is known.
func TestCompare(t *testing.T) {
	l := formsInOrder()
	for i, a := range l {
		for j, b := range l {
			if got := syntax.Compare(a, b); got != side(i, j) || syntax.Same(a, b) != (i == j) {
				t.Errorf("Compare(%v, %v) = %d, want %d; Same is %v", a, b, got, side(i, j), syntax.Same(a, b))
			}
			// The difference decides as deep in a formula, whatever comes behind it.
			if got := syntax.Compare(and(not(a), atom("Q")), and(not(b), atom("P"))); got != side(i, j) && i != j {
				t.Errorf("Compare of formulas with %v and %v = %d, want %d", a, b, got, side(i, j))
			}
		}
	}
}

// P2.2: SameTerm, and terms as they decide the order of formulas.
func TestSameTerm(t *testing.T) {
	l := termsInOrder()
	for i, a := range l {
		for j, b := range l {
			if syntax.SameTerm(a, b) != (i == j) {
				t.Errorf("SameTerm(%v, %v) = %v", a, b, i != j)
			}
			for _, f := range []func(u api.Term) api.Form{
				func(u api.Term) api.Form { return atom("P", u) },
				func(u api.Term) api.Form { return not(atom("P", variable("x"), u)) },
				func(u api.Term) api.Form { return atom("P", function("f", u)) },
				func(u api.Term) api.Form { return inst("?A", u, u) },
			} {
				if got := syntax.Compare(f(a), f(b)); got != side(i, j) || syntax.Same(f(a), f(b)) != (i == j) {
					t.Errorf("Compare(%v, %v) = %d, want %d", f(a), f(b), got, side(i, j))
				}
			}
		}
	}
}

// P2.2: lists that are nil and lists that are empty are equal.
func TestEmptyLists(t *testing.T) {
	f, g := api.Form{Op: 1, Name: "P"}, api.Form{Op: 1, Name: "P", Args: []api.Term{}, Sub: []api.Form{}}
	a, b := api.Term{Name: "a"}, api.Term{Name: "a", Args: []api.Term{}}
	if !syntax.Same(f, g) || !syntax.Same(g, f) || syntax.Compare(f, g) != 0 || !syntax.SameTerm(a, b) || !syntax.SameTerm(b, a) || !syntax.Same(atom("P", a), atom("P", b)) {
		t.Error("empty lists differ")
	}
	if judged(g) != right || !syntax.Term(b) || len(syntax.Parts(and(f, g))) != 2 || len(syntax.Functions(atom("P", a, b))) != 1 {
		t.Error("empty lists are not like nil")
	}
}

// P2.5: the order is total, and formulas are equal if and only if it does not tell them apart.
func TestOrderIsTotal(t *testing.T) {
	l := someForms()
	texts := make([]string, len(l))
	for i, f := range l {
		texts[i] = spelt(f)
	}
	order := make([][]int, len(l))
	for i, a := range l {
		for j, b := range l {
			c := syntax.Compare(a, b)
			order[i] = append(order[i], c)
			if c < -1 || c > 1 || c != -syntax.Compare(b, a) || (c == 0) != (texts[i] == texts[j]) || syntax.Same(a, b) != (c == 0) {
				t.Errorf("Compare(%v, %v) = %d", a, b, c)
			}
		}
	}
	for i := range l {
		for j := range l {
			for k := range l {
				if order[i][j] < 0 && order[j][k] <= 0 && order[i][k] >= 0 {
					t.Fatalf("%v, %v and %v have no order", l[i], l[j], l[k])
				}
			}
		}
	}
}

// P2.2: Copy.
func TestCopy(t *testing.T) {
	for _, f := range someForms() {
		if g := syntax.Copy(f); spelt(g) != spelt(f) || !syntax.Same(f, g) {
			t.Errorf("the copy of %v is %v", f, g)
		}
	}
}

// spoilTerm and spoil change all that a term, or a formula, has in memory, the spare capacity of its lists too.

func spoilTerms(l []api.Term) {
	for i, u := range l[:cap(l)] {
		spoilTerms(u.Args)
		l[:cap(l)][i] = api.Term{Name: "spoilt"}
	}
}

func spoil(f api.Form) {
	spoilTerms(f.Args)
	for i, p := range f.Sub[:cap(f.Sub)] {
		spoil(p)
		f.Sub[:cap(f.Sub)][i] = api.Form{Name: "spoilt"}
	}
}

// shared is formulas whose parts stand in the same memory, and that have spare capacity.
func shared() []api.Form {
	terms := append(make([]api.Term, 0, 10), variable("x"), function("f", variable("y")))
	u := function("g", terms...)
	f := atom("P", append(make([]api.Term, 0, 10), u, u)...)
	sub := append(make([]api.Form, 0, 10), f, f)
	g := api.Form{Op: api.OpAnd, Sub: sub}
	return []api.Form{f, g, {Op: api.OpOr, Sub: []api.Form{g, g}}, not(g), {Op: 99, Name: "N", Args: terms, Sub: sub}, example()}
}

// Results share no memory with arguments, and arguments stay as they are: P2.2, P2.3.
func TestMemory(t *testing.T) {
	for i := range shared() {
		for j, call := range []func(f api.Form) []api.Form{
			func(f api.Form) []api.Form { return []api.Form{syntax.Copy(f)} },
			syntax.Parts,
			func(f api.Form) []api.Form { p, _ := syntax.At(f, nil); return []api.Form{p} },
			func(f api.Form) []api.Form { p, _ := syntax.At(f, []int{0}); return []api.Form{p} },
			func(f api.Form) []api.Form { p, _ := syntax.With(f, nil, f); return []api.Form{p} },
			func(f api.Form) []api.Form { p, _ := syntax.With(f, []int{0}, f); return []api.Form{p} },
			func(f api.Form) []api.Form { p, _ := syntax.With(f, []int{1}, f.Sub[0]); return []api.Form{p} },
		} {
			f := shared()[i]
			if j >= 3 && len(f.Sub) == 0 || j == 6 && len(f.Sub) < 2 {
				continue
			}
			text := spelt(f)
			spare := spelt(api.Form{Args: f.Args[:cap(f.Args)], Sub: f.Sub[:cap(f.Sub)]})
			got := call(f)
			if spelt(f) != text || spelt(api.Form{Args: f.Args[:cap(f.Args)], Sub: f.Sub[:cap(f.Sub)]}) != spare {
				t.Errorf("call %d changes %v", j, f)
			}
			var texts []string
			for _, p := range got {
				texts = append(texts, spelt(p))
			}
			// Each result is spoilt, and so is what it has: neither the argument nor any other part changes.
			for k, p := range got {
				if spelt(p) != texts[k] {
					t.Errorf("call %d: results of %v share memory", j, f)
				}
				spoilEach(t, p)
				spoil(p)
			}
			if spelt(f) != text || spelt(api.Form{Args: f.Args[:cap(f.Args)], Sub: f.Sub[:cap(f.Sub)]}) != spare {
				t.Errorf("call %d: the results share memory with %v", j, f)
			}
		}
	}
}

// spoilEach spoils the parts of a formula one by one: the ones behind stay as they are.
func spoilEach(t *testing.T, f api.Form) {
	t.Helper()
	texts := make([]string, len(f.Sub))
	for i, p := range f.Sub {
		texts[i] = spelt(p)
	}
	args := make([]string, len(f.Args))
	for i, u := range f.Args {
		args[i] = speltTerm(u)
	}
	for i, p := range f.Sub {
		if spelt(p) != texts[i] {
			t.Error("two parts of a result share memory")
		}
		spoilEach(t, p)
		spoil(p)
	}
	for i, u := range f.Args {
		if speltTerm(u) != args[i] {
			t.Error("two terms of a result share memory")
		}
		spoilTerms(u.Args)
	}
}

// Calls neither change their arguments nor depend on earlier calls: the same ones have the same results.
func TestNothingIsKept(t *testing.T) {
	l := someForms()
	r := rand.New(rand.NewPCG(9, 9))
	for _, f := range l {
		text := spelt(f)
		nodes, depth, ops, parts := syntax.Nodes(f), syntax.Depth(f), syntax.Ops(f), syntax.Parts(f)
		g := l[r.IntN(len(l))]
		syntax.Parts(g)
		syntax.Compare(f, g)
		syntax.Predicates(f)
		syntax.Functions(f)
		if spelt(f) != text || syntax.Nodes(f) != nodes || syntax.Depth(f) != depth || syntax.Ops(f) != ops || !same(syntax.Parts(f), parts) {
			t.Errorf("%s has become %s", text, spelt(f))
		}
	}
}

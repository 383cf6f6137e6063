package subst_test

import (
	"math/rand/v2"
	"slices"
	"strconv"
	"testing"

	"lyceum/api"
	"lyceum/subst"
	"lyceum/syntax"
)

// P3.2: PutTerm.
func TestPutTerm(t *testing.T) {
	xOfY := api.Term{Var: true, Name: "x", Args: []api.Term{variable("y")}}
	for i, c := range []struct {
		u    api.Term
		l    []subst.One
		want api.Term
	}{
		{term("x"), nil, term("x")},
		{term("f(x,a)"), list("y=b"), term("f(x,a)")},
		{term("x"), list("x=a"), term("a")},
		{term("x"), list("x=x"), term("x")},
		{term("f(x,g(x,y))"), list("x=f(y)"), term("f(f(y),g(f(y),y))")},
		// All at once: nothing is put into what has been put.
		{term("f(x,y)"), list("x=y y=x"), term("f(y,x)")},
		{term("f(x,y,z)"), list("x=y y=z z=f(x)"), term("f(y,z,f(x))")},
		{term("f(x)"), list("x=f(x)"), term("f(f(x))")},
		// The first element with a Name counts, wherever it is.
		{term("f(x,y)"), list("x=a x=b"), term("f(a,y)")},
		{term("f(x,y)"), list("y=c x=b z=d x=a y=e"), term("f(b,c)")},
		{term("f(x,y)"), list("z=a y=b x=c x1=d"), term("f(c,b)")},
		// Functions are none of the variables, whatever their names.
		{function("x", function("y"), variable("x")), list("x=a y=b"), function("x", function("y"), function("a"))},
		// Any terms, right or not, and Names of any kind.
		{variable("?t"), list("?t=f(?s)"), term("f(?s)")},
		{function("f", variable(""), variable("A")), []subst.One{{Name: "A", Term: variable("")}, {Name: "", Term: variable("A")}}, function("f", variable("A"), variable(""))},
		{xOfY, list("x=a"), term("a")},
		{xOfY, list("y=a"), api.Term{Var: true, Name: "x", Args: []api.Term{function("a")}}},
		{xOfY, list("y=a x=f(y)"), term("f(y)")},
		{term("f(z)"), []subst.One{{Name: "z", Term: xOfY}}, function("f", xOfY)},
		{term("g(x,x)"), []subst.One{{Name: "x"}}, function("g", api.Term{}, api.Term{})},
		{api.Term{}, list("x=a"), api.Term{}},
		{function("f", slices.Repeat([]api.Term{variable("x")}, 9)...), list("x=g(x,x)"), function("f", slices.Repeat([]api.Term{term("g(x,x)")}, 9)...)},
	} {
		if got := subst.PutTerm(c.u, c.l); speltTerm(got) != speltTerm(c.want) {
			t.Errorf("%d: PutTerm(%v, %v) = %v, want %v", i, c.u, c.l, got, c.want)
		}
	}
}

// P3.2: the first of many elements with a Name counts.
func TestPutTermTakesTheFirst(t *testing.T) {
	var l []subst.One
	for i := range 300 {
		l = append(l, subst.One{Name: few[i*i%7%len(few)], Term: function("f", function("a"+strconv.Itoa(i)))})
	}
	for _, name := range few {
		i := slices.IndexFunc(l, func(o subst.One) bool { return o.Name == name })
		if got := subst.PutTerm(variable(name), l); i >= 0 && speltTerm(got) != speltTerm(l[i].Term) {
			t.Errorf("%s is %v, want %v", name, got, l[i].Term)
		}
	}
}

// There may be many variables, and terms for as many.
func TestPutMany(t *testing.T) {
	const many = 100000
	u, want := function("f"), function("f")
	var l []subst.One
	for i := range many {
		name := "x" + strconv.Itoa(i)
		u.Args = append(u.Args, variable(name))
		want.Args = append(want.Args, function("g", variable(name)))
		l = append(l, subst.One{Name: "x" + strconv.Itoa(many-1-i), Term: function("g", variable("x"+strconv.Itoa(many-1-i)))})
	}
	if !syntax.SameTerm(subst.PutTerm(u, l), want) {
		t.Error("terms for many variables")
	}
	f, g := form("(R(x7,y) & all x R(x,x99999))"), form("(R(g(x7),y) & all x R(x,g(x99999)))")
	if got, e := subst.Puts(f, l); e != api.OK || spelt(got) != spelt(g) {
		t.Error(got, e)
	}
	if got, e := subst.Puts(f, append(l, l[500])); !zero(got) || e != api.ErrArg {
		t.Error(got, e)
	}
}

// P3.2: Puts, and what becomes of the Names of quantifiers.
func TestPuts(t *testing.T) {
	for _, c := range []struct{ f, l, want string }{
		{"P(x)", "", "P(x)"},
		{"false", "x=a", "false"},
		{"P(x,f(x,y))", "x=a", "P(a,f(a,y))"},
		{"P(x,y)", "x=y y=x", "P(y,x)"},
		{"P(x,y)", "x=f(y) y=f(x)", "P(f(y),f(x))"},
		{"(P(x) & ~Q(x))", "x=a", "(P(a) & ~Q(a))"},
		{"((P(x) | P(y)) -> ((Q(x) until Q(y)) <-> []<>next always R(x,y)))", "y=b x=a", "((P(a) | P(b)) -> ((Q(a) until Q(b)) <-> []<>next always R(a,b)))"},
		// Bound variables stay, free ones of the same Name do not.
		{"all x P(x)", "x=a", "all x P(x)"},
		{"(all x P(x) & P(x))", "x=a", "(all x P(x) & P(a))"},
		{"(P(x) & some x P(x))", "x=a", "(P(a) & some x P(x))"},
		{"all x (P(x) & Q(y))", "x=a y=b", "all x (P(x) & Q(b))"},
		{"all x all y R(x,y,z)", "z=f(u)", "all x all y R(x,y,f(u))"},
		// If none counts, the Name stays, although it is free in a term.
		{"all x P(x)", "y=x", "all x P(x)"},
		{"all x P(x)", "x=f(x)", "all x P(x)"},
		{"all x some y P(x)", "y=x", "all x some y P(x)"},
		{"all x Q(y)", "z=x", "all x Q(y)"},
		{"all x (P(x) & all y R(x,y))", "y=x", "all x (P(x) & all y R(x,y))"},
		// Only the terms of those that count matter.
		{"all x R(x,y)", "y=a z=x", "all x R(x,a)"},
		{"all x R(x,y)", "x=x1 y=a z=x", "all x R(x,a)"},
		{"all x some y R(x,y,z)", "y=x z=a", "all x some y R(x,y,a)"},
		// A Name that is free in a term becomes the least that is not taken.
		{"all x R(x,y)", "y=x", "all x1 R(x1,x)"},
		{"some x R(x,y)", "y=f(g(a,x))", "some x1 R(x1,f(g(a,x)))"},
		{"all x Q(y)", "y=x", "all x1 Q(x)"},
		{"all x R(x,x1,y)", "y=x", "all x2 R(x2,x1,x)"},
		{"all x R(x,y)", "y=g(x,x1)", "all x2 R(x2,g(x,x1))"},
		{"all x R(x,y,z)", "y=x z=x1", "all x2 R(x2,x,x1)"},
		{"all x R(x,y,x2)", "y=g(x,x1)", "all x3 R(x3,g(x,x1),x2)"},
		{"all x R(x,y,x2)", "y=x", "all x1 R(x1,x,x2)"},
		{"all x1 R(x1,y)", "y=x1", "all x2 R(x2,x1)"},
		{"all x1 R(x1,x3)", "x3=g(x1,x2)", "all x4 R(x4,g(x1,x2))"},
		// A variable for which a term is put that counts is taken, too, and a free one that goes.
		{"all x R(x,x1)", "x1=x", "all x2 R(x2,x)"},
		{"all x R(x,x1,x2)", "x1=x x2=a", "all x3 R(x3,x,a)"},
		{"all x1 R(x1,x2)", "x2=x1", "all x3 R(x3,x1)"},
		// The terms of those that do not count take nothing, nor do bound names.
		{"all x R(x,y)", "y=x z=x1", "all x1 R(x1,x)"},
		{"all x R(x,y)", "y=x x=x1", "all x1 R(x1,x)"},
		{"all x all x1 R(x,x1,y)", "y=x", "all x1 all x2 R(x1,x2,x)"},
		{"all x (all x1 P(x1) & R(x,y))", "y=x", "all x1 (all x1 P(x1) & R(x1,x))"},
		{"(all x1 P(x1) & all x R(x,y))", "y=x", "(all x1 P(x1) & all x1 R(x1,x))"},
		// The new name is put together with the terms, and may be free in them further within.
		{"all x some x1 R(x,x1,y)", "y=x", "all x1 some x2 R(x1,x2,x)"},
		{"all x some x1 R(x1,y)", "y=x", "all x1 some x1 R(x1,x)"},
		{"all x some x1 P(x,x1)", "y=x", "all x some x1 P(x,x1)"},
		{"all x (P(x) & some x1 R(x,x1,y))", "y=x", "all x1 (P(x1) & some x2 R(x1,x2,x))"},
		{"all x some x R(x,y)", "y=x", "all x1 some x1 R(x1,x)"},
		{"all y (Q(x) & some x R(x,y))", "x=y", "all x1 (Q(y) & some x R(x,x1))"},
		{"all x all y R(x,y,z)", "z=g(x,y)", "all x1 all x2 R(x1,x2,g(x,y))"},
		{"all x (R(x,z) & all y R(x,y,z))", "z=y", "all x (R(x,y) & all x1 R(x,x1,y))"},
		{"all x ~(P(z) until (some y R(x,y,z) & Q(x)))", "z=g(x,y)", "all x1 ~(P(g(x,y)) until (some x2 R(x1,x2,g(x,y)) & Q(x1)))"},
		// Quantifiers side by side are renamed each for itself.
		{"(all x R(x,y) & all y R(x,y))", "x=y y=x", "(all x1 R(x1,x) & all x1 R(y,x1))"},
		{"(all x R(x,y) & all z R(z,y))", "y=x", "(all x1 R(x1,x) & all z R(z,x))"},
		// x for x changes nothing.
		{"all y R(x,y)", "x=x", "all y R(x,y)"},
		{"all x R(x,y)", "x=x y=y", "all x R(x,y)"},
	} {
		f, want := form(c.f), form(c.want)
		if got, e := subst.Puts(f, list(c.l)); e != api.OK || spelt(got) != spelt(want) {
			t.Errorf("%s with %s is %v (%d), want %s", c.f, c.l, got, e, c.want)
		}
		l := list(c.l)
		slices.Reverse(l)
		if got, e := subst.Puts(f, l); e != api.OK || spelt(got) != spelt(want) {
			t.Errorf("%s with %s, the other way round, is %v (%d), want %s", c.f, c.l, got, e, c.want)
		}
		if len(l) != 1 {
			continue
		}
		if got, e := subst.Put(f, l[0].Name, l[0].Term); e != api.OK || spelt(got) != spelt(want) {
			t.Errorf("Put(%s, %s) = %v (%d), want %s", c.f, c.l, got, e, c.want)
		}
	}
}

// freeBy is the free variables of a formula, as the chapter tells them.
func freeBy(f api.Form) []string {
	var l []string
	for _, p := range f.Sub {
		l = append(l, freeBy(p)...)
	}
	if f.Op == api.OpAll || f.Op == api.OpSome {
		l = slices.DeleteFunc(l, func(name string) bool { return name == f.Name })
	}
	for _, t := range f.Args {
		l = append(l, subst.FreeTerm(t)...)
	}
	return l
}

// putBy is a formula with terms put for variables, step by step as the chapter tells it.
func putBy(f api.Form, l []subst.One) api.Form {
	r := api.Form{Op: f.Op, Name: f.Name}
	if f.Op == api.OpAll || f.Op == api.OpSome {
		y, inside := f.Name, freeBy(f.Sub[0])
		l = slices.DeleteFunc(slices.Clone(l), func(o subst.One) bool { return o.Name == y || !slices.Contains(inside, o.Name) })
		if len(l) == 0 {
			return f
		}
		var terms, taken []string
		for _, o := range l {
			terms = append(terms, subst.FreeTerm(o.Term)...)
			taken = append(taken, o.Name)
		}
		if slices.Contains(terms, y) {
			r.Name = subst.Fresh(slices.Concat(inside, terms, taken))
			l = append(l, subst.One{Name: y, Term: variable(r.Name)})
		}
	}
	for _, t := range f.Args {
		r.Args = append(r.Args, subst.PutTerm(t, l))
	}
	for _, p := range f.Sub {
		r.Sub = append(r.Sub, putBy(p, l))
	}
	return r
}

// P3.2: each step of putting is the one that the chapter tells.
func TestPutsBySteps(t *testing.T) {
	r := rand.New(rand.NewPCG(1, 3))
	for _, f := range someForms() {
		for range 10 {
			l := anyList(r)
			want := putBy(f, l)
			if !syntax.Right(want) {
				continue
			}
			if got, e := subst.Puts(f, l); e != api.OK || spelt(got) != spelt(want) {
				t.Fatalf("Puts(%v, %v) = %v (%d), want %v", f, l, got, e, want)
			}
		}
	}
}

// P3.2: what Puts and Put do not accept.
func TestPutErrors(t *testing.T) {
	good := form("all x R(x,y)")
	long := []subst.One{{Name: "y", Term: bushy(500)}}
	for _, f := range wrongForms() {
		for _, l := range [][]subst.One{nil, list("x=a"), list("z=a"), long} {
			if got, e := subst.Puts(f, l); !zero(got) || e != api.ErrArg {
				t.Errorf("Puts(%v, ..) = %v, %d", f, got, e)
			}
		}
		if got, e := subst.Put(f, "x", function("a")); !zero(got) || e != api.ErrArg {
			t.Errorf("Put(%v, ..) = %v, %d", f, got, e)
		}
	}
	a := function("a")
	var wrong []subst.One
	for _, name := range []string{"", "a", "P", "?t", "?A", "all", "xy", "x_", "x 1", "x1234567890123456", "X"} {
		wrong = append(wrong, subst.One{Name: name, Term: a})
	}
	for _, u := range []api.Term{{}, {Var: true}, variable("a"), variable("?t"), function("x"), function("A"), function("all"), {Var: true, Name: "x", Args: []api.Term{a}}, function("f", a, a, a, a, a), function("f", variable("?t")), function("f", function("f", function("P")))} {
		wrong = append(wrong, subst.One{Name: "z", Term: u}, subst.One{Name: "y", Term: u})
	}
	for _, o := range wrong {
		if got, e := subst.Put(good, o.Name, o.Term); !zero(got) || e != api.ErrArg {
			t.Errorf("Put(.., %q, %v) = %v, %d", o.Name, o.Term, got, e)
		}
		// Ahead of others and behind them; ErrArg comes ahead of ErrLong.
		for _, l := range [][]subst.One{{o}, append(list("u=a v=b"), o), append([]subst.One{o}, list("u=a")...), append([]subst.One{o}, long...), append(slices.Clone(long), o)} {
			if got, e := subst.Puts(good, l); !zero(got) || e != api.ErrArg {
				t.Errorf("Puts(.., %v) = %v, %d", l, got, e)
			}
		}
	}
	for _, s := range []string{"y=a y=b", "y=a y=a", "y=y y=y", "z=a y=a z=b", "x=a x=a", "y=a z=b u=c v=d w=e y=f"} {
		if got, e := subst.Puts(good, list(s)); !zero(got) || e != api.ErrArg {
			t.Errorf("Puts(.., %s) = %v, %d", s, got, e)
		}
	}
	if got, e := subst.Puts(good, append(slices.Clone(long), long...)); !zero(got) || e != api.ErrArg {
		t.Error(got, e)
	}
	if got, e := subst.Put(good, "y", bushy(500)); !zero(got) || e != api.ErrLong {
		t.Error(got, e)
	}
}

// P3.2: at most 400 nodes.
func TestPutNodes(t *testing.T) {
	// 100 atoms of two nodes, 99 conjunctions: 299 nodes.
	l := append(slices.Repeat([]api.Form{form("P(x)")}, 98), form("Q(y)"), form("Q(z)"))
	f := conj(l...)
	if syntax.Nodes(f) != 299 {
		t.Fatal(syntax.Nodes(f))
	}
	ones := func(y, z int) []subst.One {
		return []subst.One{{Name: "y", Term: bushy(y)}, {Name: "z", Term: bushy(z)}}
	}
	for _, c := range []struct {
		f api.Form
		l []subst.One
		n int // nodes of the result, 0 if there are too many
	}{
		{f, ones(1, 1), 299},
		{f, ones(102, 1), 400},
		{f, ones(103, 1), 0},
		{f, ones(51, 52), 400},
		{f, ones(52, 52), 0},
		{f, ones(1, 102), 400},
		{f, ones(1, 400), 0},
		{f, []subst.One{{Name: "x", Term: term("f(a)")}}, 397},
		{f, []subst.One{{Name: "x", Term: term("f(a)")}, {Name: "y", Term: bushy(4)}}, 400},
		{f, []subst.One{{Name: "x", Term: term("f(a)")}, {Name: "y", Term: bushy(5)}}, 0},
		{f, []subst.One{{Name: "x", Term: term("f(f(a))")}}, 0},
		// What is not put takes no room: the variable is not free.
		{f, []subst.One{{Name: "u", Term: bushy(1000)}}, 299},
		{f, []subst.One{{Name: "u", Term: wraps(1000, variable("x"))}}, 299},
		{all("y", f), ones(400, 101), 400},
		{all("y", f), ones(400, 102), 0},
		{all("x", f), []subst.One{{Name: "x", Term: bushy(100)}, {Name: "y", Term: function("g", variable("x"), bushy(98))}}, 399},
		{all("x", f), []subst.One{{Name: "y", Term: function("g", variable("x"), bushy(99))}}, 400},
		{all("x", f), []subst.One{{Name: "y", Term: function("g", variable("x"), bushy(100))}}, 0},
		{atom("P", variable("x")), []subst.One{{Name: "x", Term: bushy(399)}}, 400},
		{atom("P", variable("x")), []subst.One{{Name: "x", Term: bushy(400)}}, 0},
	} {
		got, e := subst.Puts(c.f, c.l)
		if c.n == 0 && (!zero(got) || e != api.ErrLong) || c.n > 0 && (e != api.OK || syntax.Nodes(got) != c.n || !syntax.Right(got)) {
			t.Errorf("%d nodes (%d), want %d", syntax.Nodes(got), e, c.n)
		}
	}
	// A long term for many variables is not made.
	if got, e := subst.Put(f, "x", bushy(1<<20)); !zero(got) || e != api.ErrLong {
		t.Error(got, e)
	}
}

// P3.2: a depth of at most 40.
func TestPutDepth(t *testing.T) {
	for _, c := range []struct {
		f     string
		level int // of the lowest free x, within no negations
	}{
		{"P(x)", 2},
		{"P(f(x))", 3},
		{"(P(x) & P(f(x)))", 4},
		{"(P(f(x)) | P(x))", 4},
		{"all y R(x,y)", 3},
		{"(P(x) -> all y R(y,x))", 4},
		// A variable that is bound does not become deeper.
		{"(P(x) | all x P(f(f(x))))", 3},
	} {
		for k := range 33 {
			f := nots(k, form(c.f))
			room := api.MaxDepth - k - c.level
			for _, last := range []api.Term{function("a"), variable("y"), variable("x")} {
				if got, e := subst.Put(f, "x", wraps(room, last)); e != api.OK || syntax.Depth(got) != api.MaxDepth {
					t.Errorf("%s within %d negations: a depth of %d (%d)", c.f, k, syntax.Depth(got), e)
				}
				if got, e := subst.Put(f, "x", wraps(room+1, last)); !zero(got) || e != api.ErrLong {
					t.Errorf("%s within %d negations: a depth of %d (%d)", c.f, k, syntax.Depth(got), e)
				}
			}
		}
	}
	// What is not put is not deep.
	f := form("(P(z) | all x P(x))")
	if got, e := subst.Put(f, "x", wraps(1000, variable("y"))); e != api.OK || spelt(got) != spelt(f) {
		t.Error(got, e)
	}
}

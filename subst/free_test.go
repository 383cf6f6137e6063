package subst_test

import (
	"slices"
	"strconv"
	"strings"
	"testing"

	"lyceum/api"
	"lyceum/subst"
)

// P3.1: FreeTerm.
func TestFreeTerm(t *testing.T) {
	args := func(l ...api.Term) []api.Term { return l }
	for _, c := range []struct {
		u    api.Term
		want string
	}{
		{term("x"), "x"},
		{term("a"), ""},
		{term("f(a,g(b))"), ""},
		{term("f(x,x)"), "x"},
		{term("f(y,g(x,a),x)"), "x y"},
		{term("f(z,f(w,f(v,f(u,z))))"), "u v w z"},
		// The order is that of strings.
		{term("f(x2,x10,x1,x)"), "x x1 x10 x2"},
		// Terms that are not right: functions named like variables, variables with Args, Names of any kind.
		{function("x"), ""},
		{function("x", variable("y")), "y"},
		{variable("?t"), "?t"},
		{variable("a"), "a"},
		{api.Term{Var: true, Name: "x", Args: args(variable("y"), function("f", variable("a")))}, "a x y"},
		{function("f", variable("z"), variable("x"), variable("z"), variable("y"), variable("\xff"), variable("X")), "X x y z \xff"},
	} {
		if got := subst.FreeTerm(c.u); !slices.Equal(got, strings.Fields(c.want)) {
			t.Errorf("FreeTerm(%v) = %q, want %q", c.u, got, c.want)
		}
	}
	if got := subst.FreeTerm(api.Term{}); len(got) != 0 {
		t.Errorf("%q", got)
	}
	if got := subst.FreeTerm(variable("")); !slices.Equal(got, []string{""}) {
		t.Errorf("%q", got)
	}
}

// P3.1: Free and Bound of right formulas.
func TestFree(t *testing.T) {
	for _, c := range []struct{ f, free, bound string }{
		{"false", "", ""},
		{"P", "", ""},
		{"P(a)", "", ""},
		{"P(x)", "x", ""},
		{"P(y,f(x,g(z,y)))", "x y z", ""},
		{"all x P(x)", "", "x"},
		{"some x P(x)", "", "x"},
		{"all x P(y)", "y", "x"},
		{"all x P", "", "x"},
		{"some y all x R(x,y,z)", "z", "x y"},
		{"all x some x P(x)", "", "x"},
		// Only what is within a quantifier is bound by it, before it and behind it.
		{"(P(x) & all x P(x))", "x", "x"},
		{"(all x P(x) & P(x))", "x", "x"},
		{"(all x P(x) & some y P(x))", "x", "x y"},
		{"all x (some x P(x) & P(x))", "", "x"},
		{"(all x all x P(x) & P(x))", "x", "x"},
		{"all x (all y R(x,y) & Q(y))", "y", "x y"},
		{"~[]<>next always P(x)", "x", ""},
		{"~[]<>next always all x P(x)", "", "x"},
		{"((P(u) | P(v)) -> ((P(w) until P(x)) <-> (P(y) & P(z))))", "u v w x y z", ""},
		{"(all u P(u) until (some v P(v) -> (all w P(w) <-> some x P(x))))", "", "u v w x"},
		{"all x2 all x10 all x1 R(x2,x10,x1)", "", "x1 x10 x2"},
		{"(P(x2,x10) & Q(x1,x))", "x x1 x10 x2", ""},
		{"all x (P(?t) & Q(x,y))", "?t y", "x"},
	} {
		if got := subst.Free(form(c.f)); !slices.Equal(got, strings.Fields(c.free)) {
			t.Errorf("Free(%s) = %q, want %q", c.f, got, c.free)
		}
		if got := subst.Bound(form(c.f)); !slices.Equal(got, strings.Fields(c.bound)) {
			t.Errorf("Bound(%s) = %q, want %q", c.f, got, c.bound)
		}
	}
}

// P3.1: Free and Bound of formulas that are not right, and of schemas.
func TestFreeOfAny(t *testing.T) {
	x, y := variable("x"), variable("y")
	px := atom("P", x)
	for i, c := range []struct {
		f           api.Form
		free, bound string
	}{
		{api.Form{}, "", ""},
		{api.Form{Op: api.OpMeta, Name: "?A"}, "", ""},
		{api.Form{Op: api.OpInst, Name: "?A", Args: []api.Term{x, variable("?t")}}, "?t x", ""},
		{all("x", api.Form{Op: api.OpInst, Name: "?A", Args: []api.Term{x, variable("?t")}}), "?t", "x"},
		// A quantifier binds its Name in all of its Sub, but not in Args of its own.
		{api.Form{Op: api.OpAll, Name: "x", Args: []api.Term{x}, Sub: []api.Form{px}}, "x", "x"},
		{api.Form{Op: api.OpSome, Name: "x", Args: []api.Term{x, y}, Sub: []api.Form{px}}, "x y", "x"},
		{all("x", api.Form{Op: api.OpAll, Name: "y", Args: []api.Term{x, y}, Sub: []api.Form{px}}), "y", "x y"},
		{api.Form{Op: api.OpSome, Name: "x", Sub: []api.Form{px, atom("Q", y), px}}, "y", "x"},
		{api.Form{Op: api.OpAll, Name: "x"}, "", "x"},
		// Other operators bind nothing, whatever their Name.
		{api.Form{Op: api.OpNot, Name: "x", Sub: []api.Form{px}}, "x", ""},
		{api.Form{Op: api.OpAtom, Name: "x", Args: []api.Term{x}, Sub: []api.Form{px, all("z", atom("Q", y))}}, "x y", "z"},
		{api.Form{Op: 7, Name: "x", Sub: []api.Form{px}}, "x", ""},
		{api.Form{Op: 10, Name: "x", Sub: []api.Form{px}}, "x", ""},
		{api.Form{Op: 8 + 1<<7, Name: "x", Sub: []api.Form{px}}, "x", ""},
		{api.Form{Op: 9 + 1<<4, Name: "x", Sub: []api.Form{px}}, "x", ""},
		{api.Form{Op: 0, Name: "x", Args: []api.Term{y}, Sub: []api.Form{px}}, "x y", ""},
		// Names of any kind are bound, too.
		{all("?t", atom("P", variable("?t"), x)), "x", "?t"},
		{all("P", all("\xff", atom("P", variable("P"), variable("\xff"), variable("p")))), "p", "P \xff"},
		{all("x", atom("P", api.Term{Var: true, Name: "x", Args: []api.Term{y, x}})), "y", "x"},
		{all("f", atom("P", function("f", function("x")))), "", "f"},
	} {
		if got := subst.Free(c.f); !slices.Equal(got, strings.Fields(c.free)) {
			t.Errorf("%d: Free(%v) = %q, want %q", i, c.f, got, c.free)
		}
		if got := subst.Bound(c.f); !slices.Equal(got, strings.Fields(c.bound)) {
			t.Errorf("%d: Bound(%v) = %q, want %q", i, c.f, got, c.bound)
		}
	}
	if got := subst.Bound(all("", form("P"))); !slices.Equal(got, []string{""}) {
		t.Errorf("%q", got)
	}
	if got := subst.Free(all("", atom("P", variable("")))); len(got) != 0 {
		t.Errorf("%q", got)
	}
}

// P3.1: Fresh.
func TestFresh(t *testing.T) {
	for _, c := range []struct{ taken, want string }{
		{"", "x1"},
		{"x1", "x2"},
		{"x2", "x1"},
		{"x1 x2 x3", "x4"},
		{"x3 x1", "x2"},
		{"x2 x1", "x3"},
		{"x1 x1 x1 x2", "x3"},
		{"x x0 x01 y1 X1 ?x1 x1x", "x1"},
		{"x1 x3 x2 x9 x8 x5 x6 x7 x4", "x10"},
		{"x1 x10 x2 x20", "x3"},
	} {
		if got := subst.Fresh(strings.Fields(c.taken)); got != c.want {
			t.Errorf("Fresh(%s) = %s, want %s", c.taken, got, c.want)
		}
	}
	if got := subst.Fresh([]string{"", "x1 ", " x1", "x1\x00"}); got != "x1" {
		t.Error(got)
	}
	var many []string
	for i := range 100000 {
		many = append(many, "x"+strconv.Itoa(100000-i))
	}
	kept := slices.Clone(many)
	if got := subst.Fresh(many); got != "x100001" || !slices.Equal(many, kept) {
		t.Error(got)
	}
	if got := subst.Fresh(slices.Delete(many, 500, 501)); got != "x99500" {
		t.Error(got)
	}
}

package subst_test

import (
	"slices"
	"strconv"
	"testing"

	"lyceum/api"
	"lyceum/subst"
	"lyceum/syntax"
)

// P3.3: Alpha. The formulas of a row are equal up to bound names, those of different rows are not.
func TestAlpha(t *testing.T) {
	rows := [][]string{
		{"false"},
		{"P"},
		{"Q"},
		{"P(x)"},
		{"P(y)"},
		{"P(a)"},
		{"P(b)"},
		{"P(x,x)"},
		{"P(f(x))"},
		{"P(f(x,x))"},
		{"P(g(x))"},
		{"P(f(y))"},
		{"~P(x)"},
		{"[]P(x)"},
		{"(P(x) & P(y))"},
		{"(P(x) | P(y))"},
		{"(P(y) & P(x))"},
		{"all x P(x)", "all y P(y)", "all x1 P(x1)"},
		{"some x P(x)", "some y P(y)"},
		{"all x P(y)", "all z P(y)"},
		{"all y P(x)", "all z P(x)"},
		{"all x P(a)", "all y P(a)"},
		{"all x P", "all y P"},
		{"all x all y R(x,y)", "all y all x R(y,x)", "all y all z R(y,z)"},
		{"all x all y R(y,x)", "all y all x R(x,y)"},
		{"all x all y R(y,y)", "all y all x R(x,x)", "all x all x R(x,x)", "all y all y R(y,y)"},
		{"all x all y R(x,x)", "all y all z R(y,y)"},
		{"all x R(x,y)", "all z R(z,y)"},
		{"all y R(y,x)", "all z R(z,x)"},
		{"all y R(x,y)", "all z R(x,z)"},
		{"all y R(y,y)", "all x R(x,x)"},
		{"all x some y R(x,y)", "all y some x R(y,x)"},
		{"some x all y R(x,y)", "some y all x R(y,x)"},
		{"all x (P(x) & all x Q(x))", "all x (P(x) & all y Q(y))", "all y (P(y) & all x Q(x))"},
		{"all x (P(x) & all y Q(x))", "all y (P(y) & all x Q(y))"},
		{"(all x P(x) & P(x))", "(all y P(y) & P(x))"},
		{"(all x P(x) & P(y))", "(all y P(y) & P(y))"},
		{"(all x all y R(x,y) & R(x,y))", "(all y all x R(y,x) & R(x,y))"},
		{"all x P(f(x,y))", "all u P(f(u,y))"},
		{"all x P(f(y,x))"},
		{"all x (all y R(x,y) & R(x,y))", "all z (all x R(z,x) & R(z,y))"},
		{"all x (all y R(x,y) & R(x,z))", "all y (all x R(y,x) & R(y,z))"},
		// What a quantifier binds ends where it ends.
		{"all x ((all y P(y) & all z P(z)) & P(y))", "all z ((all z P(z) & all z P(z)) & P(y))"},
		{"all y ((all x P(x) & all z P(z)) & P(y))", "all x ((all y P(y) & all y P(y)) & P(x))"},
	}
	for i, r := range rows {
		for k, s := range rows {
			for _, a := range r {
				for _, b := range s {
					if got := subst.Alpha(form(a), form(b)); got != (i == k) {
						t.Errorf("Alpha(%s, %s) = %v", a, b, got)
					}
				}
			}
		}
	}
}

// P3.3: formulas that are not right are equal to none, not even to themselves.
func TestAlphaOfWrong(t *testing.T) {
	for _, f := range wrongForms() {
		for _, g := range append(wrongForms(), someForms()[:20]...) {
			if subst.Alpha(f, g) || subst.Alpha(g, f) {
				t.Errorf("Alpha(%v, %v)", f, g)
			}
		}
	}
	// One of them is right, and they differ in the Name of a quantifier alone.
	right := form("all x P")
	for _, name := range []string{"a", "", "?t", "x12345678901234567890"} {
		if wrong := all(name, form("P")); subst.Alpha(wrong, right) || subst.Alpha(right, wrong) {
			t.Errorf("all %s P", name)
		}
	}
}

// P3.3: Normal.
func TestNormal(t *testing.T) {
	for _, c := range []struct{ f, want string }{
		{"false", "false"},
		{"P", "P"},
		{"P(x,f(y))", "P(x,f(y))"},
		{"(P(x2) until ~Q(x))", "(P(x2) until ~Q(x))"},
		{"all x P(x)", "all x1 P(x1)"},
		{"all x1 P(x1)", "all x1 P(x1)"},
		{"some y P(f(g(y,a),x))", "some x1 P(f(g(x1,a),x))"},
		{"all x P", "all x1 P"},
		{"all x P(y)", "all x1 P(y)"},
		{"all x P(x1)", "all x2 P(x1)"},
		// The new names of those around it are not taken again, those beside it are.
		{"all x some y R(x,y)", "all x1 some x2 R(x1,x2)"},
		{"all x2 some x1 R(x2,x1)", "all x1 some x2 R(x1,x2)"},
		{"(all y P(y) & some z P(z))", "(all x1 P(x1) & some x1 P(x1))"},
		{"(all y all z R(y,z) & some z P(z))", "(all x1 all x2 R(x1,x2) & some x1 P(x1))"},
		{"all u (all y P(y) & some z R(u,z))", "all x1 (all x2 P(x2) & some x2 R(x1,x2))"},
		{"all x []all y ~all z (P(x) -> R(y,z))", "all x1 []all x2 ~all x3 (P(x1) -> R(x2,x3))"},
		// Even if the one around it binds nothing.
		{"all x all y P(y)", "all x1 all x2 P(x2)"},
		{"all x all x P(x)", "all x1 all x2 P(x2)"},
		{"all x (P(x) & all x Q(x))", "all x1 (P(x1) & all x2 Q(x2))"},
		{"all x (all x Q(x) & P(x))", "all x1 (all x2 Q(x2) & P(x1))"},
		// What is free anywhere in the whole formula is taken everywhere.
		{"(all x P(x) & P(x1))", "(all x2 P(x2) & P(x1))"},
		{"(P(x1) & all x1 P(x1))", "(P(x1) & all x2 P(x2))"},
		{"((all y all z R(y,z) & all u P(u)) & P(x2))", "((all x1 all x3 R(x1,x3) & all x1 P(x1)) & P(x2))"},
		{"(all x R(x,x3) & all y all x R(x,y,x1))", "(all x2 R(x2,x3) & all x2 all x4 R(x4,x2,x1))"},
		// What is bound is not.
		{"(all x P(x) & all x1 all x2 R(x1,x2))", "(all x1 P(x1) & all x1 all x2 R(x1,x2))"},
		{"all x3 all x2 all x1 R(x1,x2,x3)", "all x1 all x2 all x3 R(x3,x2,x1)"},
	} {
		if got, e := subst.Normal(form(c.f)); e != api.OK || spelt(got) != spelt(form(c.want)) {
			t.Errorf("Normal(%s) = %v (%d), want %s", c.f, got, e, c.want)
		}
	}
}

// P3.3: the normal form of what is not right.
func TestNormalOfWrong(t *testing.T) {
	for _, f := range wrongForms() {
		if got, e := subst.Normal(f); !zero(got) || e != api.ErrArg {
			t.Errorf("Normal(%v) = %v, %d", f, got, e)
		}
	}
}

// P3.3: formulas as large as they may be.
func TestAlphaAtLimits(t *testing.T) {
	deep, deepNormal := atom("P", variable("z38")), atom("P", variable("x1"))
	for i := range 38 {
		deep = all("z"+strconv.Itoa(i+1), deep)
		deepNormal = all("x"+strconv.Itoa(38-i), deepNormal)
	}
	// 133 atoms of two nodes, 132 conjunctions, one quantifier and one negation: 400 nodes.
	var l, names []api.Form
	for i := range 133 {
		l = append(l, atom("P", variable("y"+strconv.Itoa(i))))
		names = append(names, atom("P", variable("y"+strconv.Itoa(i))))
	}
	l[7], names[7] = atom("P", variable("u")), atom("P", variable("x1"))
	large, largeNormal := nots(1, all("u", conj(l...))), nots(1, all("x1", conj(names...)))
	if syntax.Depth(deep) != 40 || syntax.Nodes(large) != 400 {
		t.Fatal(syntax.Depth(deep), syntax.Nodes(large))
	}
	for i, c := range []struct{ f, want api.Form }{{deep, deepNormal}, {large, largeNormal}} {
		if got, e := subst.Normal(c.f); e != api.OK || spelt(got) != spelt(c.want) {
			t.Errorf("%d: %v, %d", i, got, e)
		}
		if !subst.Alpha(c.f, c.want) || !subst.Alpha(c.want, c.f) || subst.Alpha(c.f, nots(1, c.want)) {
			t.Error(i)
		}
		if above := nots(1, c.f); subst.Alpha(above, above) {
			t.Errorf("%d: not right, but equal", i)
		}
	}
	var taken []api.Form
	for i := range 100 {
		taken = append(taken, atom("P", variable("x"+strconv.Itoa(i+1))))
	}
	slices.Reverse(taken)
	if got, e := subst.Normal(and(all("y", form("P(y)")), conj(taken...))); e != api.OK || got.Sub[0].Name != "x101" {
		t.Error(got.Sub[0], e)
	}
}

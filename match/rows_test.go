package match_test

import (
	"slices"
	"strings"
	"testing"

	"lyceum/api"
	"lyceum/match"
)

// P7.2: what is no OpMeta and no OpInst: the signs have to be the same, and the terms.
func TestMatchSigns(t *testing.T) {
	for _, row := range []struct {
		schema, form string
		e            api.Errno
	}{
		{"P", "P", api.OK},
		{"P", "Q", match.ErrMatch},
		{"P", "P(x)", match.ErrMatch},
		{"P(x)", "P", match.ErrMatch},
		{"P(x)", "P(x)", api.OK},
		{"P(x)", "P(y)", match.ErrMatch},
		{"P(x)", "P(a)", match.ErrMatch},
		{"P(a)", "P(x)", match.ErrMatch},
		{"P(a)", "P(a)", api.OK},
		{"P(a)", "P(b)", match.ErrMatch},
		{"P(f(a))", "P(f(a))", api.OK},
		{"P(f(a))", "P(f(x))", match.ErrMatch},
		{"P(f(a))", "P(g(a))", match.ErrMatch},
		{"P(f(a))", "P(f(a, a))", match.ErrMatch},
		{"P(f(a))", "P(f)", match.ErrMatch},
		{"false", "false", api.OK},
		{"false", "P", match.ErrMatch},
		{"~P", "~P", api.OK},
		{"~P", "[]P", match.ErrMatch},
		{"~P", "P", match.ErrMatch},
		{"P & Q", "P & Q", api.OK},
		{"P & Q", "Q & P", match.ErrMatch},
		{"P & Q", "P & P", match.ErrMatch},
		{"P & Q", "P | Q", match.ErrMatch},
		{"P & Q", "P", match.ErrMatch},
		{"P & Q", "~P", match.ErrMatch},
		{"P until Q <-> []<>next always P", "P until Q <-> []<>next always P", api.OK},
		{"P until Q <-> []<>next always P", "P until Q <-> []<>always next P", match.ErrMatch},
		{"all x P(x)", "all x P(x)", api.OK},
		{"all x P(x)", "all y P(y)", api.OK},
		{"all x P(x)", "some x P(x)", match.ErrMatch},
		{"all x P(x)", "all y P(x)", match.ErrMatch},
		{"all x P(x)", "P(x)", match.ErrMatch},
		{"all x P(x)", "all y P(f(y))", match.ErrMatch},
		{"all x P(y)", "all x P(y)", api.OK},
		{"all x P(y)", "all z P(y)", api.OK},
		{"all x P(y)", "all y P(y)", match.ErrMatch},
		{"all x P(y)", "all z P(z)", match.ErrMatch},
		{"all x R(x, f(y))", "some x R(x, f(y))", match.ErrMatch},
		{"some x all y R(x, y)", "some y all x R(y, x)", api.OK},
		{"some x all y R(x, y)", "some y all x R(x, y)", match.ErrMatch},
		{"some x all y R(x, y)", "some x all x R(x, x)", match.ErrMatch},
		{"some x all y R(y, y)", "some x all x R(x, x)", api.OK},
		{"all x P(x) & P(x)", "all y P(y) & P(x)", api.OK},
		{"all x P(x) & P(x)", "all y P(y) & P(y)", match.ErrMatch},
	} {
		matches(t, row.schema, row.form, "", "", 0, row.e)
	}
}

// P7.2: an OpMeta stands for the image of what is there, up to bound names.
func TestMatchMeta(t *testing.T) {
	for _, row := range []struct{ schemas, forms, b, want string }{
		{"?A", "P", "", "?A: P"},
		{"?A", "all x P(x, y)", "", "?A: all x P(x, y)"},
		{"?A & ?B", "(P | Q) & ~R", "", "?A: P | Q; ?B: ~R"},
		{"?B & ?A", "P & Q", "", "?A: Q; ?B: P"},
		{"?A & ?A", "P & P", "", "?A: P"},
		{"?A & ?A", "P & Q", "", ""},
		{"?A & ?A", "all x P(x) & all z P(z)", "", "?A: all x P(x)"},
		{"?A & ?A", "all x P(y) & all y P(y)", "", ""},
		{"?A & ?A", "some x all y R(x, y) & some y all x R(y, x)", "", "?A: some x all y R(x, y)"},
		{"?A & ?A", "some x all y R(x, y) & some y all x R(x, y)", "", ""},
		{"?A & ?A", "some x all x R(x, y) & some y all x R(x, y)", "", ""},
		{"~[]?A", "~[]<>P", "", "?A: <>P"},
		{"next ?A until always ?B", "next P until always Q", "", "?A: P; ?B: Q"},
		{"?A; ?A", "P; P", "", "?A: P"},
		{"?A; ?A -> ?B; ?B", "P; P -> Q; Q", "", "?A: P; ?B: Q"},
		{"", "", "", ""},
		{"", "", "?A: P(?x); ?t: ?y", "?A: P(?x); ?t: ?y"},
		{"?A", "P", "?A: P", "?A: P"},
		{"?A", "P", "?A: Q", ""},
		{"?A", "P", "?B: P(?x); ?t: f(?y)", "?A: P; ?B: P(?x); ?t: f(?y)"},
		{"?B & ?D", "P & Q", "?A: R; ?C: R; ?E: R", "?A: R; ?B: P; ?C: R; ?D: Q; ?E: R"},
		{"?A", "all y P(y)", "?A: all x P(x)", "?A: all x P(x)"},
		{"?A", "P(x)", "?A: P(?x)", ""},
		{"all x ?A", "all y P(y)", "?A: P(?x)", "?A: P(?x)"},
		{"all x ?A", "all y P(y)", "?A: P(?y)", ""},
		{"all x ?A", "all y P(y)", "?A: P(y)", ""},
		{"all x ?A", "all y P(y)", "", "?A: P(?x)"},
		{"all x ?A", "all x P(x)", "", "?A: P(?x)"},
		{"all x ?A", "all y P(x)", "", "?A: P(x)"},
		{"all x ?A", "all y P", "", "?A: P"},
		{"all x ?A", "all y (P(y) -> all y P(y))", "", "?A: P(?x) -> all y P(y)"},
		{"all x ?A", "all y all y P(y)", "", "?A: all y P(y)"},
		{"all x ?A", "all y all z R(f(y), g(z, y, x))", "", "?A: all z R(f(?x), g(z, ?x, x))"},
		{"all x some y ?A", "all y some x R(x, y, z)", "", "?A: R(?y, ?x, z)"},
		{"all x some y ?A", "all z some z P(z)", "", "?A: P(?y)"},
		{"all x1 ?A", "all x2 P(x2, x1)", "", "?A: P(?x1, x1)"},
		{"all x ?A & some y ?A", "all x P & some x P", "", "?A: P"},
		{"all x ?A & some y ?A", "all x P(x) & some x P(x)", "", ""},
		{"all x ?A & some x ?A", "all y P(y) & some z P(z)", "", "?A: P(?x)"},
		{"all x (?A & some x ?A)", "all y (P(y) & some z P(z))", "", "?A: P(?x)"},
		{"all x (?A & some x ?A)", "all y (P(y) & some y P(y))", "", "?A: P(?x)"},
		{"all x (?A & some x ?A)", "all y (P(y) & some z P(y))", "", ""},
		{"all x (?A & some z ?A)", "all y (P(y) & some z P(y))", "", "?A: P(?x)"},
		{"all x ?A & ?A", "all y P & P", "", "?A: P"},
		{"all x ?A & ?A", "all y P(y) & P(y)", "", ""},
		{"?A & all x ?A", "P(y) & all y P(y)", "", ""},
		{"?A & all x ?A", "P(y) & all z P(y)", "", "?A: P(y)"},
		{"?A & all x ?A", "P(x) & all z P(x)", "", "?A: P(x)"},
		{"all x (?A & P(x))", "all y (Q(y) & P(y))", "", "?A: Q(?x)"},
		{"all x (?A & P(x))", "all y (Q(y) & P(x))", "", ""},
	} {
		e := api.OK
		if row.want == "" && row.schemas != "" {
			e = match.ErrMatch
		}
		matches(t, row.schemas, row.forms, row.b, row.want, 0, e)
	}
}

// P7.2: a metavariable of terms stands for the image of the term that is there.
func TestMatchTerms(t *testing.T) {
	for _, row := range []struct{ schema, form, b, want string }{
		{"P(?t)", "P(a)", "", "?t: a"},
		{"P(?t)", "P(x)", "", "?t: x"},
		{"P(?t)", "P(f(x, g(a)))", "", "?t: f(x, g(a))"},
		{"P(f(?t, x))", "P(f(g(y), x))", "", "?t: g(y)"},
		{"P(f(?t, x))", "P(f(g(y), y))", "", ""},
		{"P(f(?t))", "P(g(a))", "", ""},
		{"P(f(?t))", "P(f)", "", ""},
		{"P(f(?t))", "P(x)", "", ""},
		{"R(?t, ?t)", "R(a, a)", "", "?t: a"},
		{"R(?t, ?t)", "R(a, b)", "", ""},
		{"R(?t, ?t)", "R(f(x), f(y))", "", ""},
		{"R(?t, ?s)", "R(b, a)", "", "?s: a; ?t: b"},
		{"R(?t, f(?t))", "R(x, f(x))", "", "?t: x"},
		{"R(f(?t), ?t)", "R(f(x), f(x))", "", ""},
		{"P(?t) & Q(?t)", "P(a) & Q(a)", "", "?t: a"},
		{"P(?t) & Q(?t)", "P(a) & Q(b)", "", ""},
		{"P(?t)", "P(a)", "?t: a", "?t: a"},
		{"P(?t)", "P(b)", "?t: a", ""},
		{"P(?t)", "P(a)", "?A: P; ?s: ?x", "?A: P; ?s: ?x; ?t: a"},
		{"P(?t)", "P(x)", "?t: ?x", ""},
		{"all x P(?t)", "all y P(y)", "", "?t: ?x"},
		{"all x P(?t)", "all y P(y)", "?t: ?x", "?t: ?x"},
		{"all x P(?t)", "all y P(y)", "?t: y", ""},
		{"all x P(?t)", "all y P(f(y, x))", "", "?t: f(?x, x)"},
		{"all x P(?t) & P(?t)", "all y P(a) & P(a)", "", "?t: a"},
		{"all x P(?t) & P(?t)", "all y P(y) & P(y)", "", ""},
		{"all x P(?t) & some y P(?t)", "all y P(y) & some y P(y)", "", ""},
		{"all x P(?t) & some x P(?t)", "all y P(y) & some z P(z)", "", "?t: ?x"},
		{"all x R(x, ?t)", "all y R(y, y)", "", "?t: ?x"},
		{"all x R(x, ?t)", "all y R(x, y)", "", ""},
		{"all x some y P(f(?t))", "all z some z P(f(z))", "", "?t: ?y"},
	} {
		e := api.OK
		if row.want == "" {
			e = match.ErrMatch
		}
		matches(t, row.schema, row.form, row.b, row.want, 0, e)
	}
}

// P7.2: there is no image if the schema's variable means an inner quantifier. It is asked for at metavariables and at Args alone.
func TestNoImage(t *testing.T) {
	for _, row := range []struct {
		schemas, forms, b, want string
		e                       api.Errno
	}{
		{"all x all x P(x)", "all y all z P(z)", "", "", api.OK},
		{"all x all x P(x)", "all y all y P(y)", "", "", api.OK},
		{"all x all x P(x)", "all y all z P(y)", "", "", match.ErrMatch},
		{"all x all x P(?t)", "all y all z P(y)", "", "", match.ErrMatch},
		{"all x all x P(?t)", "all y all z P(z)", "", "?t: ?x", api.OK},
		{"all x all x R(x, ?t)", "all y all z R(z, f(y))", "", "", match.ErrMatch},
		{"all x all x R(?t, a)", "all y all z R(z, a)", "", "?t: ?x", api.OK},
		{"all x all x Q", "all y all z Q", "", "", api.OK},
		{"all x all x ?A", "all y all z Q", "", "?A: Q", api.OK},
		{"all x all x ?A", "all y all z P(z)", "", "?A: P(?x)", api.OK},
		{"all x all x ?A", "all y all y P(y)", "", "?A: P(?x)", api.OK},
		{"all x all x ?A", "all y all z P(y)", "", "", match.ErrMatch},
		{"all x all x ?A", "all y all z P(y)", "?A: P(?x)", "", match.ErrMatch},
		{"all x all x ?A", "all y all z P(x)", "", "?A: P(x)", api.OK},
		{"all x all x ?A", "all y all z some y R(y, z)", "", "?A: some y R(y, ?x)", api.OK},
		{"all x all x (?A & P(x))", "all y all z (Q(z) & P(z))", "", "?A: Q(?x)", api.OK},
		{"all x all x (?A & P(x))", "all y all z (Q(y) & P(z))", "", "", match.ErrMatch},
		{"all x (?A & all x ?B)", "all y (P(y) & all z P(z))", "", "?A: P(?x); ?B: P(?x)", api.OK},
		{"all x (?A & all x ?B)", "all y (P(y) & all z P(y))", "", "", match.ErrMatch},
		{"all x all y all x ?A", "all x all y all z R(y, z)", "", "?A: R(?y, ?x)", api.OK},
		{"all x all y all x ?A", "all x all y all z R(x, z)", "", "", match.ErrMatch},
		{"all x all y all x ?A", "all x all x all z R(x, z)", "", "?A: R(?y, ?x)", api.OK},
		{"all x all y all x ?A", "all z all x all z R(x, z)", "", "?A: R(?y, ?x)", api.OK},
		{"all x all x all x ?A", "all x all y all z P(y)", "", "", match.ErrMatch},
		{"?A; all x all x ?A[?t/x]", "Q; all y all z Q", "", "?A: Q", api.OK},
		{"?A; all x all x ?A[?t/x]", "Q; all y all z P(y)", "", "", match.ErrMatch},
		{"all x ?A; all x all x ?A[?t/x]", "all x P(x); all y all z P(f(z))", "", "?A: P(?x); ?t: f(?x)", api.OK},
		{"all x ?A; all x all x ?A[?t/x]", "all x P(x); all y all z P(y)", "", "", match.ErrMatch},
		{"all x ?A; all x all x ?A[?t/x]", "all x P(x); all y all z P(y)", "?t: ?x", "", match.ErrMatch},
		{"all x all x ?A[?t/x]", "all y all z P(y)", "", "", match.ErrLater},
	} {
		at := 0
		if row.e != api.OK && strings.Contains(row.schemas, ";") {
			at = 1
		}
		matches(t, row.schemas, row.forms, row.b, row.want, at, row.e)
	}
}

// P7.2: an OpInst is equal to what its metavariable stands for, with a term for the placeholder.
func TestMatchInst(t *testing.T) {
	for _, row := range []struct{ schemas, forms, b, want string }{
		{"?A[?t/x]", "P(f(y))", "?A: P(?x)", "?A: P(?x); ?t: f(y)"},
		{"?A[?t/x]", "P(x)", "?A: P(?x)", "?A: P(?x); ?t: x"},
		{"?A[?t/x]", "Q(x)", "?A: P(?x)", ""},
		{"?A[?t/x]", "P", "?A: P(?x)", ""},
		{"?A[?t/x]", "P & Q", "?A: P(?x)", ""},
		{"?A[?t/x]", "P(a)", "?A: P(?x); ?t: a", "?A: P(?x); ?t: a"},
		{"?A[?t/x]", "P(b)", "?A: P(?x); ?t: a", ""},
		{"?A[?t/x]", "P(b)", "?A: P(b); ?t: a", "?A: P(b); ?t: a"},
		{"?A[?t/x]", "P(b)", "?A: P(b)", "?A: P(b)"},
		{"?A[?t/x]", "P(a)", "?A: P(x)", ""},
		{"?A[?t/x]", "P(x)", "?A: P(x)", "?A: P(x)"},
		{"?A[?t/y]", "P(a)", "?A: P(?x)", ""},
		{"?A[?t/y]", "R(x, a)", "?A: R(x, ?y)", "?A: R(x, ?y); ?t: a"},
		{"all x ?A[?t/y]", "all z P(z)", "?A: P(?x)", "?A: P(?x)"},
		{"all x ?A[?t/y]", "all z R(z, f(z))", "?A: R(?x, ?y)", "?A: R(?x, ?y); ?t: f(?x)"},
		{"all x ?A[?t/x]", "all z R(z, y)", "?A: R(?x, y)", "?A: R(?x, y); ?t: ?x"},
		{"all x ?A[?t/x]", "all z R(a, z)", "?A: R(?x, z)", ""},
		{"all x (?A & ?A[?t/x])", "all y (P(y) & P(f(y)))", "", "?A: P(?x); ?t: f(?x)"},
		{"all y (?A & ?A[?t/x])", "all z (P(z) & P(z))", "", "?A: P(?y)"},
		{"?A[?t/x]", "R(a, a)", "?A: R(?x, ?x)", "?A: R(?x, ?x); ?t: a"},
		{"?A[?t/x]", "R(a, b)", "?A: R(?x, ?x)", ""},
		{"?A[?t/x]", "R(f(a), a)", "?A: R(f(?x), ?x)", "?A: R(f(?x), ?x); ?t: a"},
		{"?A[?t/x]", "R(a, a)", "?A: R(f(?x), ?x)", ""},
		{"?A[?t/x]", "R(y, y)", "?A: R(f(?x), ?x)", ""},
		{"?A[?t/x]", "R(g(a), a)", "?A: R(f(?x), ?x)", ""},
		{"?A[?t/x]", "P(a) & Q(b)", "?A: P(?x) & Q(b)", "?A: P(?x) & Q(b); ?t: a"},
		{"?A[?t/x]", "P(a) & Q(a)", "?A: P(?x) & Q(b)", ""},
		{"?A[?t/x]", "Q & P(a)", "?A: Q & P(?x)", "?A: Q & P(?x); ?t: a"},
		{"?A[?t/x]", "Q | P(a)", "?A: Q & P(?x)", ""},
		{"?A[?t/x]", "~P(a)", "?A: Q & P(?x)", ""},
		{"?A[?t/x]", "P(a) & (P(b) & P(a))", "?A: P(?x) & (P(b) & P(?x))", "?A: P(?x) & (P(b) & P(?x)); ?t: a"},
		{"?A[?t/x] & ?A[?t/x]", "P(a) & P(a)", "?A: P(?x)", "?A: P(?x); ?t: a"},
		{"?A[?t/x] & ?A[?t/x]", "P(a) & P(b)", "?A: P(?x)", ""},
		{"?A[?t/x] & ?A[?s/x]", "P(a) & P(b)", "?A: P(?x)", "?A: P(?x); ?s: b; ?t: a"},
		{"?A[?t/x] & Q(?t)", "P(a) & Q(a)", "?A: P(?x)", "?A: P(?x); ?t: a"},
		{"?A[?t/x] & Q(?t)", "P(a) & Q(b)", "?A: P(?x)", ""},
		{"?A[?t/x] & all x ?A", "P(a) & all y P(y)", "", "?A: P(?x); ?t: a"},
		{"all x ?A -> ?A[?t/x]", "all y R(y, x) -> R(x, x)", "", "?A: R(?x, x); ?t: x"},
		{"all x ?A -> ?A[?t/x]", "all y R(y, x) -> R(a, a)", "", ""},
	} {
		e := api.OK
		if row.want == "" {
			e = match.ErrMatch
		}
		matches(t, row.schemas, row.forms, row.b, row.want, 0, e)
	}
}

// P7.2: the term of an OpInst is not one with a variable that is bound where it stands, and it is not captured.
func TestMatchInstBound(t *testing.T) {
	for _, row := range []struct{ schema, form, b, want string }{
		{"?A[?t/x]", "some y R(z, y)", "?A: some y R(?x, y)", "?t: z"},
		{"?A[?t/x]", "some z R(y, z)", "?A: some y R(?x, y)", "?t: y"},
		{"?A[?t/x]", "some y R(y, y)", "?A: some y R(?x, y)", ""},
		{"?A[?t/x]", "some z R(z, z)", "?A: some y R(?x, y)", ""},
		{"?A[?t/x]", "some y R(f(y), y)", "?A: some y R(?x, y)", ""},
		{"?A[?t/x]", "some y R(f(z), y)", "?A: some y R(?x, y)", "?t: f(z)"},
		{"?A[?t/x]", "some y R(f(x), y)", "?A: some y R(?x, y)", "?t: f(x)"},
		{"?A[?t/x]", "some y P(y)", "?A: some y P(?x)", ""},
		{"?A[?t/x]", "some z P(y)", "?A: some y P(?x)", "?t: y"},
		{"?A[?t/x]", "some z P(y)", "?A: some y P(?x); ?t: y", "?t: y"},
		{"?A[?t/x]", "some y P(y)", "?A: some y P(?x); ?t: y", ""},
		{"?A[?t/x]", "some x1 R(y, x1)", "?A: some y R(?x, y); ?t: y", "?t: y"},
		{"?A[?t/x]", "some x2 R(y, x2)", "?A: some y R(?x, y); ?t: y", "?t: y"},
		{"?A[?t/x]", "some y R(y, y)", "?A: some y R(?x, y); ?t: y", ""},
		{"?A[?t/x]", "some x1 R(x1, x1)", "?A: some y R(?x, y); ?t: y", ""},
		{"?A[?t/x]", "P(y) & some z P(y)", "?A: P(?x) & some y P(?x)", "?t: y"},
		{"?A[?t/x]", "P(y) & some y P(y)", "?A: P(?x) & some y P(?x)", ""},
		{"?A[?t/x]", "some y P(y) & P(y)", "?A: some y P(y) & P(?x)", "?t: y"},
		{"?A[?t/x]", "some y P(y) & P(y)", "?A: some z P(?x) & P(?x)", ""},
		{"all u ?A[?t/x]", "all y some z R(y, z)", "?A: some y R(?x, y)", "?t: ?u"},
		{"all u ?A[?t/x]", "all y some y R(y, y)", "?A: some y R(?x, y)", ""},
		{"all u ?A[?t/x]", "all y some z R(f(y), z)", "?A: some z R(?x, z); ?t: f(?u)", "?t: f(?u)"},
		{"all u ?A[?t/x]", "all y some z R(f(y), z)", "?A: some z R(?x, z); ?t: f(y)", ""},
	} {
		e, want := match.ErrMatch, ""
		if row.want != "" {
			e, want = api.OK, strings.Split(row.b, "; ")[0]+"; "+row.want
		}
		matches(t, row.schema, row.form, row.b, want, 0, e)
	}
}

// P7.2: the two passes, and the order within them.
func TestMatchOrder(t *testing.T) {
	for _, row := range []struct {
		schemas, forms, b, want string
		at                      int
		e                       api.Errno
	}{
		// What an OpInst asks for may come behind it.
		{"?A[?t/x]; all x ?A", "P(a); all y P(y)", "", "?A: P(?x); ?t: a", 0, api.OK},
		{"?A[?t/x]; all x ?A; Q(?t)", "P(a); all y P(y); Q(a)", "", "?A: P(?x); ?t: a", 0, api.OK},
		{"?A[?t/x]; all x ?A; Q(?t)", "P(a); all y P(y); Q(b)", "", "", 0, match.ErrMatch},
		{"all x ?A; ?A[?t/x]; Q(?t)", "all y P(y); P(a); Q(b)", "", "", 1, match.ErrMatch},
		// The first pass goes through all pairs ahead of the second one.
		{"?A[?t/x]; P", "P(a); Q", "", "", 1, match.ErrMatch},
		{"?A[?t/x]; P; Q", "P(a); P; P", "", "", 2, match.ErrMatch},
		{"P; ?A; ?A", "P; P; Q", "", "", 2, match.ErrMatch},
		{"P; P; ?A[?t/x]", "P; P; Q", "", "", 2, match.ErrLater},
		{"?A[?t/x] & P", "P(a) & Q", "", "", 0, match.ErrMatch},
		{"P & ?A[?t/x]", "Q & P(a)", "", "", 0, match.ErrMatch},
		{"?A[?t/x] | ?A", "P & Q", "", "", 0, match.ErrMatch},
		// Within the second one, the first place decides.
		{"?A[?t/x] & ?B[?t/x]", "P(b) & Q", "?A: P(?x); ?t: a", "", 0, match.ErrMatch},
		{"?A[?t/x] & ?B[?t/x]", "P(a) & Q", "?A: P(?x); ?t: a", "", 0, match.ErrLater},
		{"?B[?t/x] & ?A[?t/x]", "Q & P(b)", "?A: P(?x); ?t: a", "", 0, match.ErrLater},
		{"?A[?t/x]; ?B[?t/x]", "P(b); Q", "?A: P(?x); ?t: a", "", 0, match.ErrMatch},
		{"?A[?t/x]; ?B[?t/x]", "P(a); Q", "?A: P(?x); ?t: a", "", 1, match.ErrLater},
		{"?B[?t/x]; ?A[?t/x]", "Q; P(b)", "?A: P(?x); ?t: a", "", 0, match.ErrLater},
		// An OpInst does not tell its metavariable of formulas.
		{"?A[?t/x]", "P(a)", "?t: a", "", 0, match.ErrLater},
		{"?A[?t/x]; ?A[?t/x]", "Q; Q", "", "", 0, match.ErrLater},
		// The first occurrence tells a metavariable.
		{"?A; ?A", "all y P(y); all x P(x)", "", "?A: all y P(y)", 0, api.OK},
		{"?A[?t/x] & ?A[?t/x]", "some y R(z, y) & some u R(z, u)", "?A: some x1 R(?x, x1)", "?A: some x1 R(?x, x1); ?t: z", 0, api.OK},
	} {
		matches(t, row.schemas, row.forms, row.b, row.want, row.at, row.e)
	}
}

// P7.2: what is not valid, and not right: the binding first, then the first pair, ahead of all that does not match.
func TestMatchesErrArg(t *testing.T) {
	good, bad := pairs("?A", "P")[0], pairs("P", "Q")[0]
	noSchema := match.Pair{Schema: not(api.Form{}), Form: atom("P")}
	noForm := match.Pair{Schema: atom("P"), Form: meta("?A")}
	placed := match.Pair{Schema: meta("?A"), Form: form("P(?x)")}
	placedSchema := match.Pair{Schema: form("P(?x)"), Form: atom("P", variable("x"))}
	wrong := match.Binding{Forms: []match.FormBind{{Name: "?t", Form: atom("P")}}}
	for i, row := range []struct {
		l  []match.Pair
		b  match.Binding
		at int
		e  api.Errno
	}{
		{nil, wrong, 0, api.ErrArg},
		{[]match.Pair{good}, wrong, 0, api.ErrArg},
		{[]match.Pair{good, good, noSchema}, wrong, 0, api.ErrArg},
		{[]match.Pair{noSchema}, match.Binding{}, 0, api.ErrArg},
		{[]match.Pair{good, noSchema}, match.Binding{}, 1, api.ErrArg},
		{[]match.Pair{good, noForm}, match.Binding{}, 1, api.ErrArg},
		{[]match.Pair{good, noForm, noSchema}, match.Binding{}, 1, api.ErrArg},
		{[]match.Pair{bad, good, placed}, match.Binding{}, 2, api.ErrArg},
		{[]match.Pair{bad, placedSchema}, match.Binding{}, 1, api.ErrArg},
		{[]match.Pair{{}}, match.Binding{}, 0, api.ErrArg},
		{[]match.Pair{{Schema: meta("?A")}}, match.Binding{}, 0, api.ErrArg},
		{[]match.Pair{good, bad}, match.Binding{}, 1, match.ErrMatch},
	} {
		b, at, e := match.Matches(row.l, row.b)
		if bindingText(b) != "" || at != row.at || e != row.e {
			t.Errorf("row %d: %q, %d, %d; want %d, %d", i, bindingText(b), at, e, row.at, row.e)
		}
		if len(row.l) != 1 {
			continue
		}
		if b, e := match.Match(row.l[0].Schema, row.l[0].Form, row.b); bindingText(b) != "" || e != row.e {
			t.Errorf("row %d: %q, %d; want %d", i, bindingText(b), e, row.e)
		}
	}
}

// P7.3: each metavariable becomes what it stands for.
func TestFill(t *testing.T) {
	for _, row := range []struct{ schema, b, want string }{
		{"P -> false", "", "P -> false"},
		{"?A", "?A: P & Q", "P & Q"},
		{"?A -> ?B | ~?A", "?A: P; ?B: Q & R", "P -> Q & R | ~P"},
		{"[]<>next always ?A until ?B", "?A: P; ?B: Q", "[]<>next always P until Q"},
		{"P(?t)", "?t: f(x, a)", "P(f(x, a))"},
		{"R(f(?t, x), ?s)", "?s: a; ?t: b", "R(f(b, x), a)"},
		{"R(?t, ?s)", "?s: x; ?t: y", "R(y, x)"},
		{"all x P(x)", "", "all x P(x)"},
		{"all x R(x, y)", "", "all x R(x, y)"},
		{"all x some x P(x)", "", "all x some x P(x)"},
		{"all x (P(x) & some x Q(x) & R(x))", "", "all x (P(x) & some x Q(x) & R(x))"},
		{"all x some y R(x, y)", "", "all x some y R(x, y)"},
		{"P(x) & all x P(x)", "", "P(x) & all x P(x)"},
		{"all x ?A", "?A: P(?x)", "all x P(x)"},
		{"all x ?A", "?A: Q", "all x Q"},
		{"all x ?A", "?A: P(y)", "all x P(y)"},
		{"some x all y ?A", "?A: R(?x, ?y)", "some x all y R(x, y)"},
		{"some x all y ?A", "?A: R(?y, ?x)", "some x all y R(y, x)"},
		{"all x ?A & some x ?A", "?A: P(?x)", "all x P(x) & some x P(x)"},
		{"all x all x ?A", "?A: P(?x)", "all x all x P(x)"},
		{"all x (?A & some x ?A)", "?A: P(?x)", "all x (P(x) & some x P(x))"},
		{"all x P(?t)", "?t: ?x", "all x P(x)"},
		{"all x P(?t)", "?t: f(?x, a)", "all x P(f(x, a))"},
		{"all y P(?t)", "?t: f(x)", "all y P(f(x))"},
		{"all y some x R(?t, x)", "?t: g(?y)", "all y some x R(g(y), x)"},
		{"?A[?t/x]", "?A: P(?x); ?t: a", "P(a)"},
		{"?A[?t/x]", "?A: R(?x, f(?x)); ?t: g(y)", "R(g(y), f(g(y)))"},
		{"?A[?t/x]", "?A: Q", "Q"},
		{"?A[?t/x]", "?A: P(x)", "P(x)"},
		{"?A[?t/x]", "?A: P(x); ?t: a", "P(x)"},
		{"?A[?t/x] & ?A[?s/x]", "?A: P(?x); ?s: a; ?t: b", "P(b) & P(a)"},
		{"all x ?A & ?A[?t/x]", "?A: P(?x); ?t: a", "all x P(x) & P(a)"},
		{"all x ?A[?t/x]", "?A: P(?x); ?t: ?x", "all x P(x)"},
		{"all x ?A[?t/x]", "?A: P(?x); ?t: f(?x)", "all x P(f(x))"},
		{"all x ?A[?t/y]", "?A: R(?x, ?y); ?t: f(?x)", "all x R(x, f(x))"},
		{"all x ?A[?t/y]", "?A: P(?x)", "all x P(x)"},
		{"all x some y (?A & ?B[?t/z])", "?A: R(?x, ?y); ?B: S(?x, ?y, ?z); ?t: g(?y, ?x)", "all x some y (R(x, y) & S(x, y, g(y, x)))"},
	} {
		fills(t, row.schema, row.b, row.want, api.OK)
	}
}

// P7.3: the names of quantifiers: those of the schema, where what is filled in has the same free variable, and those of formulas, where a term has it.
func TestFillNames(t *testing.T) {
	for _, row := range []struct{ schema, b, want string }{
		// A quantifier of the schema gives way, whether it binds something or not.
		{"all x ?A", "?A: P(x)", "all x1 P(x)"},
		{"all x ?A", "?A: R(?x, x)", "all x1 R(x1, x)"},
		{"all x ?A", "?A: S(?x, x, x1)", "all x2 S(x2, x, x1)"},
		{"all x ?A", "?A: S(?x, x2, x1)", "all x S(x, x2, x1)"},
		{"all x1 ?A", "?A: R(?x1, x1)", "all x2 R(x2, x1)"},
		{"all x3 ?A", "?A: R(?x3, x3)", "all x1 R(x1, x3)"},
		{"all x (P(x) & ?A)", "?A: Q(x)", "all x1 (P(x1) & Q(x))"},
		{"all x R(x, ?t)", "?t: x", "all x1 R(x1, x)"},
		{"all x R(x, ?t)", "?t: g(?x, x)", "all x1 R(x1, g(x1, x))"},
		{"all x ?A[?t/x]", "?A: R(?x, y); ?t: x", "all x1 R(x, y)"},
		{"all x R(x, y) & ?A", "?A: P(x)", "all x R(x, y) & P(x)"},
		{"all x all x ?A", "?A: R(?x, x)", "all x1 all x1 R(x1, x)"},
		{"all x (R(x, x) & all x ?A)", "?A: R(?x, x)", "all x1 (R(x1, x1) & all x1 R(x1, x))"},
		{"all x some y ?A", "?A: S(?x, ?y, y)", "all x some x1 S(x, x1, y)"},
		{"all x some y ?A", "?A: S(?x, ?y, x)", "all x1 some y S(x1, y, x)"},
		{"all x some y ?A", "?A: T(?x, ?y, x, y)", "all x1 some x2 T(x1, x2, x, y)"},
		{"all x1 some y ?A", "?A: S(?x1, ?y, y)", "all x1 some x2 S(x1, x2, y)"},
		{"all x1 all x (?A & P(x1))", "?A: R(?x, x)", "all x1 all x2 (R(x2, x) & P(x1))"},
		// A quantifier of what is filled in gives way to that of the schema.
		{"all x ?A", "?A: some x R(x, ?x)", "all x some x1 R(x1, x)"},
		{"all x ?A", "?A: some y R(y, ?x)", "all x some y R(y, x)"},
		{"all x ?A", "?A: some x P(x)", "all x some x P(x)"},
		{"all x ?A", "?A: some x P(x) & P(?x)", "all x (some x P(x) & P(x))"},
		{"all x ?A", "?A: some x1 S(x1, ?x, x)", "all x1 some x2 S(x2, x1, x)"},
		{"all x ?A", "?A: some x some x1 S(?x, x, x1)", "all x some x1 some x2 S(x, x1, x2)"},
		{"all x ?A", "?A: some x (R(?x, x) & some x P(x))", "all x some x1 (R(x, x1) & some x P(x))"},
		// A quantifier gives way to the term of an OpInst.
		{"?A[?t/x]", "?A: some y R(?x, y); ?t: y", "some x1 R(y, x1)"},
		{"?A[?t/x]", "?A: some y R(?x, y); ?t: f(x, y)", "some x1 R(f(x, y), x1)"},
		{"?A[?t/x]", "?A: some y R(?x, y); ?t: z", "some y R(z, y)"},
		{"?A[?t/x]", "?A: some x R(?x, x); ?t: x", "some x1 R(x, x1)"},
		{"?A[?t/x]", "?A: some y S(?x, y, x1); ?t: g(y, x2)", "some x3 S(g(y, x2), x3, x1)"},
		{"?A[?t/x]", "?A: P(?x) & all y Q(y); ?t: y", "P(y) & all y Q(y)"},
		{"?A[?t/x]", "?A: all x1 some y S(?x, x1, y); ?t: y", "all x1 some x2 S(y, x1, x2)"},
		{"?A[?t/x]", "?A: all y some x1 S(?x, y, x1); ?t: y", "all x1 some x2 S(y, x1, x2)"},
		{"?A[?t/x]", "?A: all y some x1 S(?x, y, x1); ?t: g(y, x2)", "all x1 some x3 S(g(y, x2), x1, x3)"},
		{"?A[?t/x]", "?A: all y (P(y) & some y R(?x, y)); ?t: y", "all x1 (P(x1) & some x1 R(y, x1))"},
		{"?A[?t/x]", "?A: all y (R(?x, y) & some y P(y)); ?t: y", "all x1 (R(y, x1) & some y P(y))"},
		{"?A[?t/x]", "?A: all y some y R(?x, y); ?t: y", "all x1 some x1 R(y, x1)"},
		{"all x some x ?A[?t/y]", "?A: all x S(?x, ?y, x); ?t: x", "all x1 some x1 all x2 S(x1, x, x2)"},
		{"all z ?A[?t/x]", "?A: some z R(?x, z); ?t: ?z", "all z some x1 R(z, x1)"},
		// y is put away first, and then the term is put: all at once, the innermost quantifier would become x4 and x5.
		{"?A[?t/x]", "?A: all y all x1 (all y S(?x, x1, x1) & P(y)); ?t: g(y, x3)", "all x1 all x2 (all x1 S(g(y, x3), x2, x2) & P(x1))"},
		{"?A[?t/x]", "?A: all y all x2 (all y S(?x, x2, y) & P(y)); ?t: g(x1, y)", "all x2 all x3 (all x2 S(g(x1, y), x3, x2) & P(x2))"},
		// y becomes x1 within some x1, which becomes x2 by that, and x3 by the term.
		{"?A[?t/x]", "?A: all y (some x1 S(?x, y, x1) & P(y)); ?t: g(x2, y)", "all x1 (some x3 S(g(x2, y), x1, x3) & P(x1))"},
	} {
		fills(t, row.schema, row.b, row.want, api.OK)
	}
}

// P7.3: what cannot be filled, and which error is first.
func TestFillErrors(t *testing.T) {
	for _, row := range []struct {
		schema, b string
		e         api.Errno
	}{
		{"?A", "", api.ErrNone},
		{"?A & ?B", "?A: P", api.ErrNone},
		{"?A", "?B: P", api.ErrNone},
		{"P(?t)", "", api.ErrNone},
		{"P(f(?t))", "?s: a", api.ErrNone},
		{"all x P(?t)", "?A: P", api.ErrNone},
		{"?A[?t/x]", "", api.ErrNone},
		{"?A[?t/x]", "?t: a", api.ErrNone},
		{"?A[?t/x]", "?A: P(?x)", api.ErrNone},
		{"?A[?t/x]", "?A: some y R(y, f(?x)); ?s: a", api.ErrNone},
		{"?A", "?A: P(?x)", match.ErrScope},
		{"all y ?A", "?A: P(?x)", match.ErrScope},
		{"all x ?A & ?A", "?A: P(?x)", match.ErrScope},
		{"?A & all x ?A", "?A: P(?x)", match.ErrScope},
		{"P(?t)", "?t: ?x", match.ErrScope},
		{"P(f(?t))", "?t: g(?x)", match.ErrScope},
		{"all y P(?t)", "?t: g(?x, ?y)", match.ErrScope},
		{"all x P(?t) & P(?t)", "?t: ?x", match.ErrScope},
		{"?A[?t/x]", "?A: P(?y)", match.ErrScope},
		{"?A[?t/x]", "?A: R(?x, ?y); ?t: a", match.ErrScope},
		{"?A[?t/x]", "?A: P(?x); ?t: ?x", match.ErrScope},
		{"?A[?t/x]", "?A: P(?x); ?t: f(?y)", match.ErrScope},
		{"all x ?A[?t/y]", "?A: P(?y); ?t: ?y", match.ErrScope},
		{"all x ?A[?t/y]", "?A: R(?x, ?y); ?t: g(?x, ?y)", match.ErrScope},
		// What is not known comes ahead of what is left, wherever it stands.
		{"?A & ?B", "?A: P(?x)", api.ErrNone},
		{"?A[?t/x] & P(?s)", "?A: P(?x); ?t: ?x", api.ErrNone},
		{"P(?t) & ?A[?s/x]", "?A: P(?x); ?t: ?x", api.ErrNone},
	} {
		fills(t, row.schema, row.b, "", row.e)
	}
	// Others do not matter, nor does the term of an OpInst without its placeholder.
	fills(t, "?A", "?A: P; ?B: P(?x); ?t: ?y", "P", api.OK)
	fills(t, "?A[?t/x]", "?A: P; ?t: ?y", "P", api.OK)
	fills(t, "?A[?t/x]", "?A: P(x); ?t: ?x", "P(x)", api.OK)
	wrong := match.Binding{Terms: []match.TermBind{{Name: "?A", Term: term("a")}}}
	for i, row := range []struct {
		schema api.Form
		b      match.Binding
	}{
		{api.Form{}, match.Binding{}},
		{not(api.Form{}), match.Binding{}},
		{form("P(?x)"), match.Binding{}},
		{and(meta("?A"), meta("?t")), match.Binding{}},
		{nots(40, meta("?A")), match.Binding{}},
		{atom("P"), wrong},
		{meta("?A"), wrong},
		{form("P(?x)"), wrong},
	} {
		if f, e := match.Fill(row.schema, row.b); text(f) != "" || e != api.ErrArg {
			t.Errorf("row %d: %s, %d", i, text(f), e)
		}
	}
}

// P7.3: terms.
func TestFillTerm(t *testing.T) {
	for _, row := range []struct {
		t, b, want string
		e          api.Errno
	}{
		{"a", "", "a", api.OK},
		{"x", "", "x", api.OK},
		{"f(x, g(a))", "?t: b", "f(x, g(a))", api.OK},
		{"?t", "?t: f(x)", "f(x)", api.OK},
		{"f(?t, g(?s, ?t), x)", "?s: x; ?t: h(a)", "f(h(a), g(x, h(a)), x)", api.OK},
		{"g(?t, ?s)", "?s: y; ?t: x", "g(x, y)", api.OK},
		{"?t", "", "", api.ErrNone},
		{"f(a, ?t)", "?A: P; ?s: a", "", api.ErrNone},
		{"?t", "?t: ?x", "", match.ErrScope},
		{"f(?t)", "?t: g(x, ?y1)", "", match.ErrScope},
		{"g(?t, ?s)", "?t: ?x", "", api.ErrNone},
		{"g(?s, ?t)", "?t: ?x", "", api.ErrNone},
		{"f(?t)", "?A: P(?x); ?s: ?x; ?t: a", "f(a)", api.OK},
	} {
		if got, e := match.FillTerm(term(row.t), binding(row.b)); termText(got) != row.want || e != row.e {
			t.Errorf("%s with %s: %s, %d; want %s, %d", row.t, row.b, termText(got), e, row.want, row.e)
		}
	}
	wrong := match.Binding{Terms: []match.TermBind{{Name: "?t"}}}
	for i, row := range []struct {
		t api.Term
		b match.Binding
	}{
		{api.Term{}, match.Binding{}},
		{variable("?x"), match.Binding{}},
		{variable("?A"), binding("?A: P")},
		{variable("a"), match.Binding{}},
		{function("x"), match.Binding{}},
		{function("f", variable("?x")), match.Binding{}},
		{function("f", term("a"), term("a"), term("a"), term("a"), term("a")), match.Binding{}},
		{api.Term{Var: true, Name: "?t", Args: []api.Term{term("a")}}, binding("?t: a")},
		{variable("?t"), wrong},
		{term("a"), wrong},
	} {
		if got, e := match.FillTerm(row.t, row.b); termText(got) != "" || e != api.ErrArg {
			t.Errorf("row %d: %s, %d", i, termText(got), e)
		}
	}
}

// P7.1: which bindings are valid.
func TestValid(t *testing.T) {
	P, a := atom("P"), function("a")
	f := func(l ...match.FormBind) match.Binding { return match.Binding{Forms: l} }
	u := func(l ...match.TermBind) match.Binding { return match.Binding{Terms: l} }
	for i, row := range []struct {
		b    match.Binding
		want bool
	}{
		{match.Binding{}, true},
		{match.Binding{Forms: []match.FormBind{}, Terms: []match.TermBind{}}, true},
		{binding("?A: P; ?B: all x R(x, ?x); ?a: x; ?t: g(?y, f(a))"), true},
		// Names.
		{f(match.FormBind{Name: "?A", Form: P}), true},
		{f(match.FormBind{Name: "?Long56789012345", Form: P}), true},
		{f(match.FormBind{Name: "?Long567890123456", Form: P}), false},
		{f(match.FormBind{Name: "?t", Form: P}), false},
		{f(match.FormBind{Name: "?x", Form: P}), false},
		{f(match.FormBind{Name: "A", Form: P}), false},
		{f(match.FormBind{Name: "?", Form: P}), false},
		{f(match.FormBind{Name: "", Form: P}), false},
		{u(match.TermBind{Name: "?t", Term: a}), true},
		{u(match.TermBind{Name: "?long56789012345", Term: a}), true},
		{u(match.TermBind{Name: "?long567890123456", Term: a}), false},
		{u(match.TermBind{Name: "?A", Term: a}), false},
		{u(match.TermBind{Name: "?x", Term: a}), false},
		{u(match.TermBind{Name: "?all", Term: a}), false},
		{u(match.TermBind{Name: "t", Term: a}), false},
		{u(match.TermBind{Name: "", Term: a}), false},
		// Their order.
		{f(match.FormBind{Name: "?A", Form: P}, match.FormBind{Name: "?B", Form: P}), true},
		{f(match.FormBind{Name: "?A", Form: P}, match.FormBind{Name: "?A", Form: P}), false},
		{f(match.FormBind{Name: "?B", Form: P}, match.FormBind{Name: "?A", Form: P}), false},
		{f(match.FormBind{Name: "?A10", Form: P}, match.FormBind{Name: "?A2", Form: P}), true},
		{f(match.FormBind{Name: "?A2", Form: P}, match.FormBind{Name: "?A10", Form: P}), false},
		{f(match.FormBind{Name: "?A", Form: P}, match.FormBind{Name: "?C", Form: P}, match.FormBind{Name: "?B", Form: P}), false},
		{u(match.TermBind{Name: "?s", Term: a}, match.TermBind{Name: "?t", Term: a}), true},
		{u(match.TermBind{Name: "?t", Term: a}, match.TermBind{Name: "?t", Term: a}), false},
		{u(match.TermBind{Name: "?t", Term: a}, match.TermBind{Name: "?s", Term: a}), false},
		{u(match.TermBind{Name: "?s1", Term: a}, match.TermBind{Name: "?s10", Term: a}, match.TermBind{Name: "?s2", Term: a}), true},
		// Formulas.
		{f(match.FormBind{Name: "?A"}), false},
		{f(match.FormBind{Name: "?A", Form: meta("?B")}), false},
		{f(match.FormBind{Name: "?A", Form: inst("?B", "?t", "x")}), false},
		{f(match.FormBind{Name: "?A", Form: form("P(?t)")}), false},
		{f(match.FormBind{Name: "?A", Form: form("P(?x)")}), true},
		{f(match.FormBind{Name: "?A", Form: form("some y all x1 R(?y, ?x1, y)")}), true},
		{f(match.FormBind{Name: "?A", Form: form("P(f(?x, g(?z9)))")}), true},
		{f(match.FormBind{Name: "?A", Form: atom("P", variable("?A"))}), false},
		{f(match.FormBind{Name: "?A", Form: atom("P", variable("?xa"))}), false},
		{f(match.FormBind{Name: "?A", Form: atom("P", variable("??x"))}), false},
		{f(match.FormBind{Name: "?A", Form: atom("P", variable("?"))}), false},
		{f(match.FormBind{Name: "?A", Form: atom("P", function("?x"))}), false},
		{f(match.FormBind{Name: "?A", Form: atom("?x")}), false},
		{f(match.FormBind{Name: "?A", Form: atom("P", api.Term{Var: true, Name: "?x", Args: []api.Term{a}})}), false},
		{f(match.FormBind{Name: "?A", Form: all("?x", P)}), false},
		{f(match.FormBind{Name: "?A", Form: all("?x", form("P(?x)"))}), false},
		{f(match.FormBind{Name: "?A", Form: api.Form{Op: api.OpAll, Name: "x", Args: []api.Term{variable("?x")}, Sub: []api.Form{P}}}), false},
		{f(match.FormBind{Name: "?A", Form: and(P, api.Form{Op: api.OpAnd, Sub: []api.Form{P}})}), false},
		{f(match.FormBind{Name: "?A", Form: P}, match.FormBind{Name: "?B", Form: not(api.Form{})}), false},
		// Terms.
		{u(match.TermBind{Name: "?t"}), false},
		{u(match.TermBind{Name: "?t", Term: variable("?s")}), false},
		{u(match.TermBind{Name: "?t", Term: variable("?x")}), true},
		{u(match.TermBind{Name: "?t", Term: variable("x")}), true},
		{u(match.TermBind{Name: "?t", Term: function("f", variable("?y7"), a)}), true},
		{u(match.TermBind{Name: "?t", Term: function("f", variable("?A"))}), false},
		{u(match.TermBind{Name: "?t", Term: function("?x")}), false},
		{u(match.TermBind{Name: "?t", Term: api.Term{Var: true, Name: "?x", Args: []api.Term{a}}}), false},
		{u(match.TermBind{Name: "?t", Term: function("f", a, a, a, a)}), true},
		{u(match.TermBind{Name: "?t", Term: function("f", a, a, a, a, a)}), false},
		{u(match.TermBind{Name: "?s", Term: a}, match.TermBind{Name: "?t", Term: variable("a")}), false},
		{match.Binding{Forms: []match.FormBind{{Name: "?A", Form: P}}, Terms: []match.TermBind{{Name: "?t", Term: function("x")}}}, false},
	} {
		if got := match.Valid(row.b); got != row.want {
			t.Errorf("row %d: Valid(%v) = %v", i, row.b, got)
		}
	}
}

// P7.1: what a metavariable stands for: the first element with the Name counts, in any binding.
func TestLookUp(t *testing.T) {
	b := binding("?A: P(?x); ?B: Q; ?s: ?x; ?t: f(a)")
	for _, row := range []struct{ name, form, term string }{
		{"?A", "P(?x)", ""}, {"?B", "Q", ""}, {"?s", "", "?x"}, {"?t", "", "f(a)"}, {"?C", "", ""}, {"?a", "", ""}, {"A", "", ""}, {"", "", ""},
	} {
		f, found := match.Form(b, row.name)
		if text(f) != row.form || found != (row.form != "") {
			t.Error(row, text(f), found)
		}
		u, found := match.Term(b, row.name)
		if termText(u) != row.term || found != (row.term != "") {
			t.Error(row, termText(u), found)
		}
	}
	wrong := match.Binding{
		Forms: []match.FormBind{{Name: "?t", Form: atom("P")}, {Name: "", Form: atom("Q")}, {Name: "?t", Form: atom("R")}, {Name: "?A"}},
		Terms: []match.TermBind{{Name: "?t", Term: term("b")}, {Name: "", Term: term("a")}, {Name: "?t", Term: term("c")}, {Name: "?A"}},
	}
	for _, row := range []struct {
		name, form, term string
		found            bool
	}{{"?t", "P", "b", true}, {"", "Q", "a", true}, {"?A", "", "", true}, {"?B", "", "", false}} {
		f, found := match.Form(wrong, row.name)
		u, also := match.Term(wrong, row.name)
		if text(f) != row.form || termText(u) != row.term || found != row.found || also != row.found {
			t.Error(row, f, u, found, also)
		}
	}
	if f, found := match.Form(match.Binding{}, "?A"); text(f) != "" || found {
		t.Error(f, found)
	}
	if u, found := match.Term(match.Binding{}, "?t"); termText(u) != "" || found {
		t.Error(u, found)
	}
}

// P7.1: the metavariables of schemas, and of any formulas.
func TestMetas(t *testing.T) {
	for i, row := range []struct {
		f    api.Form
		want string
	}{
		{api.Form{}, ""},
		{form("all x (P(x) & Q(f(a)))"), ""},
		{form("?A"), "?A"},
		{form("?B -> ?A -> ?B"), "?A ?B"},
		{form("all x ?A & ?A[?t/x]"), "?A ?t"},
		{form("P(?t, f(?s, g(?t))) & all x ?B[?r/x]"), "?B ?r ?s ?t"},
		{form("?A10 & ?A2 & ?A & P(?a)"), "?A ?A10 ?A2 ?a"},
		{form("P(?x, ?y1)"), ""},
		{meta("?t"), "?t"},
		{meta("A"), ""},
		{meta("?x"), ""},
		{meta(""), ""},
		{atom("?A"), ""},
		{all("?t", atom("P")), ""},
		{all("?t", atom("P", variable("?t"))), "?t"},
		{atom("P", variable("?A"), function("?s"), function("?B", variable("?C"))), "?A ?C"},
		{inst("?t", "?A", "?s"), "?A ?s ?t"},
		{api.Form{Op: 99, Name: "?A", Args: []api.Term{variable("?B")}, Sub: []api.Form{meta("?C")}}, "?B ?C"},
		{api.Form{Op: api.OpMeta, Name: "?A", Args: []api.Term{{Var: true, Name: "x", Args: []api.Term{variable("?t")}}}, Sub: []api.Form{meta("?B")}}, "?A ?B ?t"},
		{api.Form{Op: api.OpSome, Name: "?A", Args: []api.Term{variable("?A"), variable("?t")}, Sub: []api.Form{meta("?B"), meta("?B"), meta("?A")}}, "?A ?B ?t"},
		{meta("?Long56789012345"), "?Long56789012345"},
		{meta("?Long567890123456"), ""},
	} {
		if got := match.Metas(row.f); !slices.Equal(got, strings.Fields(row.want)) {
			t.Errorf("row %d: %v; want %s", i, got, row.want)
		}
	}
}

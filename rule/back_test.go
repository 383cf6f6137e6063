package rule_test

import (
	"testing"

	"lyceum/api"
	"lyceum/match"
	"lyceum/rule"
	"lyceum/syntax"
)

// P8.3: the premises that a conclusion needs.
func TestBack(t *testing.T) {
	const two = "fresh ?b ?A[?b/x] / closed fresh ?a ?A[?a/x] => all x ?A"
	for _, row := range []struct{ rule, concl, known, taken, prems, want string }{
		{"=> P", "P", "", "", "", ""},
		{"=> ?A -> ?A", "P -> P", "", "", "", "?A: P"},
		{"?A / ?B => ?A & ?B", "P & (Q | R)", "", "", "P / Q | R", "?A: P; ?B: Q | R"},
		{"{?A} ?B => ?A -> ?B", "P -> Q -> R", "", "", "{P} Q -> R", "?A: P; ?B: Q -> R"},
		{"?A -> ?B / ?A => ?B", "Q", "?A: P & R", "", "P & R -> Q / P & R", "?A: P & R; ?B: Q"},
		{"?A -> ?B / ?A => ?B", "Q", "?A: P; ?B: Q", "", "P -> Q / P", "?A: P; ?B: Q"},
		{"[]?A / []?B / closed {?A; ?B} ?D => []?D", "[]R", "?A: P; ?B: Q", "", "[]P / []Q / closed {P; Q} R", "?A: P; ?B: Q; ?D: R"},
		// What is known of other metavariables stays.
		{"?A / ?B => ?A & ?B", "P & Q", "?C: R(?x); ?t: f(?y)", "", "P / Q", "?A: P; ?B: Q; ?C: R(?x); ?t: f(?y)"},
		{"all x ?A => ?A[?t/x]", "S(c, c)", "?A: S(?x, c)", "", "all x S(x, c)", "?A: S(?x, c); ?t: c"},
		{"all x ?A => ?A[?t/x]", "P", "?A: P", "", "all x P", "?A: P"},
		{"?A[?t/x] => some x ?A", "some y S(y, z)", "?t: f(y)", "", "S(f(y), z)", "?A: S(?x, z); ?t: f(y)"},
		{"?A[?t/x] => some x ?A", "some y S(z, z)", "", "", "S(z, z)", "?A: S(z, z)"},
		// The names of quantifiers are those of the schema, if they can be.
		{"all x ?A => P -> all x ?A", "P -> all y S(y, z)", "", "", "all x S(x, z)", "?A: S(?x, z)"},
		{"all x ?A => P -> all x ?A", "P -> all y S(y, x)", "", "", "all x1 S(x1, x)", "?A: S(?x, x)"},
		// A fresh variable is the least one that is not taken.
		{allI, "all y P(y)", "", "", "fresh x1 P(x1)", "?A: P(?x); ?a: x1"},
		{allI, "all y P(y)", "", "x1 x3 x4", "fresh x2 P(x2)", "?A: P(?x); ?a: x2"},
		{allI, "all y P(y)", "", "x4 x2 x1 x2 u x10 x3", "fresh x5 P(x5)", "?A: P(?x); ?a: x5"},
		{allI, "all y P(y)", "", "x01 y1", "fresh x1 P(x1)", "?A: P(?x); ?a: x1"},
		{allI, "all x1 P(x1)", "", "", "fresh x1 P(x1)", "?A: P(?x); ?a: x1"},
		{allI, "all y P", "", "", "fresh x1 P", "?A: P; ?a: x1"},
		{allI, "all y S(y, x1)", "", "", "fresh x2 S(x2, x1)", "?A: S(?x, x1); ?a: x2"},
		{allI, "all y S(y, x1)", "", "x2", "fresh x3 S(x3, x1)", "?A: S(?x, x1); ?a: x3"},
		{allI, "all y some x1 S(y, x1)", "", "", "fresh x1 some x2 S(x1, x2)", "?A: some x1 S(?x, x1); ?a: x1"},
		{someE, "Q", "?A: P(?x)", "", "some x P(x) / fresh x1 {P(x1)} Q", "?A: P(?x); ?C: Q; ?a: x1"},
		{someE, "Q(x1)", "?A: P(?x)", "", "some x P(x) / fresh x2 {P(x2)} Q(x1)", "?A: P(?x); ?C: Q(x1); ?a: x2"},
		{someE, "Q(x2)", "?A: S(?x, x1)", "x3", "some x S(x, x1) / fresh x4 {S(x4, x1)} Q(x2)", "?A: S(?x, x1); ?C: Q(x2); ?a: x4"},
		{someE, "Q", "?A: P(?x); ?B: P(x1)", "", "some x P(x) / fresh x2 {P(x2)} Q", "?A: P(?x); ?B: P(x1); ?C: Q; ?a: x2"},
		{someE, "Q", "?A: P(?x); ?t: f(x1)", "", "some x P(x) / fresh x2 {P(x2)} Q", "?A: P(?x); ?C: Q; ?a: x2; ?t: f(x1)"},
		{someE, "Q", "?A: P(?x); ?t: ?x1", "", "some x P(x) / fresh x1 {P(x1)} Q", "?A: P(?x); ?C: Q; ?a: x1; ?t: ?x1"},
		{"fresh ?a ?A[?a/x] => (all x ?A) & Q(x1)", "(all y P(y)) & Q(x1)", "", "", "fresh x2 P(x2)", "?A: P(?x); ?a: x2"},
		// Variables of the rule itself are not looked at.
		{"fresh ?a ?A[?a/x] & Q(x1) => all x ?A", "all y P(y)", "", "", "fresh x1 P(x1) & Q(x1)", "?A: P(?x); ?a: x1"},
		// Several premises have different variables, in their order, unless it is the same name.
		{two, "all y P(y)", "", "", "fresh x1 P(x1) / closed fresh x2 P(x2)", "?A: P(?x); ?a: x2; ?b: x1"},
		{two, "all y P(y)", "", "x2 x4", "fresh x1 P(x1) / closed fresh x3 P(x3)", "?A: P(?x); ?a: x3; ?b: x1"},
		{two, "all y P(y)", "?a: x1", "", "fresh x2 P(x2) / closed fresh x1 P(x1)", "?A: P(?x); ?a: x1; ?b: x2"},
		{two, "all y P(y)", "?b: x3", "", "fresh x3 P(x3) / closed fresh x1 P(x1)", "?A: P(?x); ?a: x1; ?b: x3"},
		{two, "all y P(y)", "?aa: x1; ?c: x2", "", "fresh x3 P(x3) / closed fresh x4 P(x4)", "?A: P(?x); ?a: x4; ?aa: x1; ?b: x3; ?c: x2"},
		{"fresh ?a ?A[?a/x] / fresh ?a ?B[?a/x] => all x (?A & ?B)", "all y (P(y) & Q(y))", "", "", "fresh x1 P(x1) / fresh x1 Q(x1)", "?A: P(?x); ?B: Q(?x); ?a: x1"},
		{"fresh ?a ?A[?a/x] / P(?a) => all x ?A", "all y Q(y)", "", "", "fresh x1 Q(x1) / P(x1)", "?A: Q(?x); ?a: x1"},
		{"P(?a) / fresh ?a ?A[?a/x] => all x ?A", "all y Q(y)", "", "", "P(x1) / fresh x1 Q(x1)", "?A: Q(?x); ?a: x1"},
		// A name that is known is what it is: any term.
		{someE, "Q", "?A: P(?x); ?a: y", "y", "some x P(x) / fresh y {P(y)} Q", "?A: P(?x); ?C: Q; ?a: y"},
		{someE, "Q", "?A: P(?x); ?a: c", "", "some x P(x) / fresh c {P(c)} Q", "?A: P(?x); ?C: Q; ?a: c"},
		{someE, "Q", "?A: P(?x); ?a: f(c, y)", "", "some x P(x) / fresh f {P(f(c, y))} Q", "?A: P(?x); ?C: Q; ?a: f(c, y)"},
		{someE, "Q", "?A: P; ?a: ?z", "", "some x P / fresh ?z {P} Q", "?A: P; ?C: Q; ?a: ?z"},
		{"fresh ?a all z ?A[?a/x] => some x ?A", "some x P(x)", "?a: ?z", "", "fresh ?z all z P(z)", "?A: P(?x); ?a: ?z"},
		{"fresh ?a ?A[?a/x] => (all x ?A) & P(?a)", "(all x Q(x)) & P(z)", "", "", "fresh z Q(z)", "?A: Q(?x); ?a: z"},
		{"fresh ?a ?A[?a/x] => (all x ?A) & P(?a)", "(all x Q(x)) & P(f(z))", "", "", "fresh f Q(f(z))", "?A: Q(?x); ?a: f(z)"},
		// Closed premises stay closed.
		{"closed ?A / ?B / closed fresh ?a {?C[?a/x]; ?C} P => ?A & ?B & all x ?C", "P & Q & all x R", "", "", "closed P / Q / closed fresh x1 {R; R} P", "?A: P; ?B: Q; ?C: R; ?a: x1"},
		{"closed {?A} next ?A => always ?A", "always P", "", "", "closed {P} next P", "?A: P"},
	} {
		backs(t, row.rule, row.concl, row.known, row.taken, row.prems, row.want, api.OK)
	}
}

// P8.3: conclusions that do not match, and what cannot be filled.
func TestBackErrors(t *testing.T) {
	const scope = "{?B} ?A / ?C / P & all x ?B => ?A"
	for _, row := range []struct {
		rule, concl, known string
		e                  api.Errno
	}{
		{"?A / ?B => ?A & ?B", "P | Q", "", rule.ErrStep},
		{"?A / ?B => ?A & ?B", "P & Q", "?A: Q", rule.ErrStep},
		{"=> P", "Q", "", rule.ErrStep},
		{"=> P(?t)", "P(c)", "?t: d", rule.ErrStep},
		// Not known yet: match.ErrLater.
		{"all x ?A => ?A[?t/x]", "P(c)", "", rule.ErrStep},
		{"all x ?A => ?A[?t/x]", "P(c)", "?A: Q(?x)", rule.ErrStep},
		{"all x ?A => ?A[?t/x]", "P(c)", "?A: P(?x); ?t: d", rule.ErrStep},
		{"?A -> ?B / ?A => ?B", "Q", "", api.ErrNone},
		{"?A -> ?B / ?A => ?B", "Q", "?C: P", api.ErrNone},
		{someE, "Q", "", api.ErrNone},
		{"?A[?t/x] => some x ?A", "some y P(y)", "", api.ErrNone},
		{"{P(?t)} P => Q", "Q", "", api.ErrNone},
		{"P / {P; Q; P(?t)} P => Q", "Q", "", api.ErrNone},
		{"?A -> ?B / ?A => ?B", "Q", "?A: P(?x)", match.ErrScope},
		{"P(?t) => Q", "Q", "?t: ?z", match.ErrScope},
		{someE, "Q", "?A: P(?x); ?a: ?x", match.ErrScope},
		// What does not match comes ahead of what cannot be filled.
		{"?A -> ?B / ?A => ?B & P", "Q", "", rule.ErrStep},
		// Premise by premise, the conclusion of each first.
		{scope, "P", "?B: P(?x)", match.ErrScope},
		{scope, "P", "?B: P(?x); ?C: P(?x)", match.ErrScope},
		{scope, "P", "?C: P(?x)", api.ErrNone},
		{scope, "P", "?B: P; ?C: P(?x)", match.ErrScope},
		{scope, "P", "?B: P", api.ErrNone},
		{"{?B} ?C / P & all x ?B => P", "P", "?B: P(?x)", api.ErrNone},
		{"{?B} ?C / P & all x ?B => P", "P", "?C: P(?x)", match.ErrScope},
		{"{P; ?B; ?C} P / ?B / ?C => P", "P", "?B: P(?x)", match.ErrScope},
		{"{P; ?C; ?B} P / ?B / ?C => P", "P", "?B: P(?x)", api.ErrNone},
		{"P / ?B / ?C => P", "P", "?C: P(?x)", api.ErrNone},
		{"P / ?B / ?C => P", "P", "?B: P(?x)", match.ErrScope},
	} {
		backs(t, row.rule, row.concl, row.known, "x1 x2", "", "", row.e)
	}
	// What is too long.
	big := match.Binding{Forms: []match.FormBind{{Name: "?A", Form: wide(150, atom("P"))}}}
	for _, row := range []struct {
		rule string
		e    api.Errno
	}{
		{"?A => P", api.OK}, {"?A & ?A => P", api.ErrLong}, {"?A / {?A | ?A} P => P", api.ErrLong}, {"?A / ?B / ?A & ?A => P", api.ErrNone}, {"?A / ?A & ?A / ?B => P", api.ErrLong}, {"{?B} ?A | ?A / ?B => P", api.ErrLong}, {"{?A | ?A} ?B => ?A | P", rule.ErrStep},
	} {
		l, b, e := rule.Back(ruleOf(row.rule), form("P"), big, nil)
		if e != row.e || e != api.OK && (len(l) > 0 || !same(b, match.Binding{})) {
			t.Errorf("%s: %v, %v, %d", row.rule, l, b, e)
		}
	}
}

// P8.3: arguments that are not right.
func TestBackArguments(t *testing.T) {
	isArg := func(r api.Rule, concl api.Form, b match.Binding, taken ...string) bool {
		l, c, e := rule.Back(r, concl, b, taken)
		return e == api.ErrArg && len(l) == 0 && same(c, match.Binding{})
	}
	// A conclusion that matches, one that does not, and one for which something is missing.
	for _, s := range []string{"all x P(x)", "P", "all x (P(x) & Q)"} {
		r := ruleOf("fresh ?a {?C} ?A[?a/x] / ?C => all x ?A")
		for k, f := range notRight() {
			if !isArg(r, f, match.Binding{}) {
				t.Error("formula", k)
			}
		}
		for _, name := range []string{"", "a", "P", "?x", "?a", "all", "x_", "1", "x1 ", "x12345678901234567", "t1"} {
			if !isArg(r, form(s), match.Binding{}, name) || !isArg(r, form(s), match.Binding{}, "x", "y1", name) || !isArg(r, form(s), match.Binding{}, name, "z") {
				t.Errorf("%s: taken %q", s, name)
			}
		}
		for _, b := range []match.Binding{binding("?B: P; ?A: P"), binding("?A: P; ?A: P"), binding("?t: x; ?s: x"), {Forms: []match.FormBind{{Name: "A", Form: form("P")}}}, {Forms: []match.FormBind{{Name: "?D", Form: meta("?A")}}}, {Terms: []match.TermBind{{Name: "?t"}}}, {Terms: []match.TermBind{{Name: "?t", Term: variable("?s")}}}, {Forms: []match.FormBind{{Name: "?D", Form: wide(201, form("P"))}}}} {
			if !isArg(r, form(s), b) {
				t.Error(s, b)
			}
		}
		r.Prems[0].Fresh = "?b"
		if !isArg(r, form(s), match.Binding{}) {
			t.Error(s, "a rule that is not right")
		}
	}
	if !isArg(api.Rule{}, form("P"), match.Binding{}) || !isArg(ruleOf("=> P"), api.Form{}, match.Binding{}) {
		t.Error("zero arguments")
	}
	for _, taken := range [][]string{nil, {}} {
		for _, b := range []match.Binding{{}, {Forms: []match.FormBind{}, Terms: []match.TermBind{}}} {
			if l, c, e := rule.Back(ruleOf(allI), form("all x P(x)"), b, taken); premsText(l) != "fresh x1 P(x1)" || !same(c, binding("?A: P(?x); ?a: x1")) || e != api.OK {
				t.Error(l, c, e)
			}
		}
	}
}

// P8.3: terms of bindings have no limit; many names are taken.
func TestBackLarge(t *testing.T) {
	deep := variable("x1")
	for range 1<<16 - 10 {
		deep = function("f", deep)
	}
	b := binding("?A: P(?x); ?t: c")
	b.Terms[0].Term = deep
	l, c, e := rule.Back(ruleOf(someE), form("Q"), b, nil)
	if premsText(l) != "some x P(x) / fresh x2 {P(x2)} Q" || e != api.OK || len(c.Terms) != 2 || !syntax.SameTerm(c.Terms[1].Term, deep) {
		t.Error(premsText(l), e)
	}
	b.Terms[0].Name = "?a"
	if l, c, e := rule.Back(ruleOf(someE), form("Q"), b, nil); len(l) > 0 || !same(c, match.Binding{}) || e != api.ErrLong {
		t.Error(premsText(l), e)
	}
	b.Forms[0].Form = form("P")
	if l, _, e := rule.Back(ruleOf(someE), form("Q"), b, nil); premsText(l) != "some x P / fresh f {P} Q" || e != api.OK {
		t.Error(premsText(l), e)
	}
	taken := []string{"x2", "x3"}
	for len(taken) < 1<<16 {
		taken = append(taken, "x1")
	}
	if l, _, e := rule.Back(ruleOf(allI), form("all x P(x)"), match.Binding{}, taken); premsText(l) != "fresh x4 P(x4)" || e != api.OK {
		t.Error(premsText(l), e)
	}
}

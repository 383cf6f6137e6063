package rule_test

import (
	"slices"
	"testing"

	"lyceum/api"
	"lyceum/match"
	"lyceum/rule"
)

// P8.2: what steps match with.
func TestAccepted(t *testing.T) {
	for _, row := range []struct{ rule, step, want string }{
		{"=> P", "=> P", ""},
		{"=> ?A -> ?A", "=> P & Q -> P & Q", "?A: P & Q"},
		{"?A / ?B => ?A & ?B", "P -> Q / R => (P -> Q) & R", "?A: P -> Q; ?B: R"},
		{"{?A} ?B => ?A -> ?B", "{P} Q with R; P; Q => P -> Q", "?A: P; ?B: Q"},
		// What is discharged need not be there, whatever it would be.
		{"{?A} ?B => ?A -> ?B", "{-} Q => P -> Q", "?A: P; ?B: Q"},
		{"?A | ?B / {?A} ?C / {?B} ?C => ?C", "P | Q / {P} R / {-} R => R", "?A: P; ?B: Q; ?C: R"},
		{"?A | ?B / {?A} ?C / {?B} ?C => ?C", "P | Q / {-} R / {-} R with Q => R", "?A: P; ?B: Q; ?C: R"},
		{"{?A; ?B; ?C} P => ?A & (?B & ?C)", "{-; Q; -} P => P & (Q & R)", "?A: P; ?B: Q; ?C: R"},
		// The second pass tells the terms.
		{"all x ?A => ?A[?t/x]", "all y some z S(y, z) => some x S(f(u), x)", "?A: some z S(?x, z); ?t: f(u)"},
		{"?A[?t/x] => some x ?A", "P(x, x) => some y P(x, y)", "?A: P(x, ?x); ?t: x"},
		{"?A[?t/x] => some x ?A", "P => some y P", "?A: P"},
		// Bound names do not matter.
		{someE, "some x all y S(x, y) / {all z S(y, z)} all y S(y, y) => all x S(x, x)", "?A: all y S(?x, y); ?C: all y S(y, y); ?a: y"},
		{allI, "P(y) => all y P(y)", "?A: P(?x); ?a: y"},
		// A fresh name may be bound wherever it likes.
		{allI, "P(y) | all y Q(y) with all y R(y, z); some y Q(y) => all x (P(x) | all y Q(y))", "?A: P(?x) | (all y Q(y)); ?a: y"},
		// If it is not known, it is nothing of which something is asked.
		{allI, "P with Q(y); R(y, z) => all y P", "?A: P"},
		{someE, "some x P(x, y) / {-} Q(y) with R(y) => Q(y)", "?A: P(?x, y); ?C: Q(y)"},
		{someE, "some x P(y) / {P(y)} Q(y) with R(y) => Q(y)", "?A: P(y); ?C: Q(y)"},
		// The fresh name may be free in other premises, and in what they assume.
		{someE, "some x P(x) with R(y); P(y) / {P(y)} Q with R(x) => Q", "?A: P(?x); ?C: Q; ?a: y"},
		{"fresh ?a ?A[?a/x] / ?B => (all x ?A) & all z ?B", "P(y) / Q with P(y) => (all x P(x)) & all x Q", "?A: P(?x); ?B: Q; ?a: y"},
		// Terms that are no fresh names may be anything.
		{"?A[?t/x] / all x ?A => ?A[?s/x]", "P(c) with P(c) / all y P(y) => P(f(y))", "?A: P(?x); ?s: f(y); ?t: c"},
		// A term may have the fresh name.
		{"fresh ?a {P(?t)} ?A[?a/x] => all x ?A", "{P(y)} Q(y) => all x Q(x)", "?A: Q(?x); ?a: y; ?t: y"},
		// Closed premises assume nothing but what is discharged.
		{"[]?A / closed {?A} ?D => []?D", "[]P with Q; R / {P} P & P => [](P & P)", "?A: P; ?D: P & P"},
		{"closed ?D => []?D", "P -> P => [](P -> P)", "?D: P -> P"},
		// Of a fresh name in several premises, each has conditions of its own.
		{"fresh ?a ?A[?a/x] / fresh ?a ?B[?a/x] => all x (?A & ?B)", "P(y) with R(z) / Q(y) with R(x) => all x (P(x) & Q(x))", "?A: P(?x); ?B: Q(?x); ?a: y"},
		{"fresh ?a ?A[?a/x] / fresh ?b ?B[?b/x] => all x (?A & ?B)", "P(y) with R(z) / Q(z) with R(y) => all x (P(x) & Q(x))", "?A: P(?x); ?B: Q(?x); ?a: y; ?b: z"},
	} {
		accepts(t, row.rule, row.step, row.want)
	}
}

// P8.2: the number of premises, and of what they discharge.
func TestFaultPrems(t *testing.T) {
	const orE = "?A | ?B / {?A} ?C / {?B} ?C => ?C"
	for _, row := range []struct {
		rule, step string
		prem       int
	}{
		{"=> P", "P => P", 0},
		{"?A => ?A | P", "=> P | P", 0},
		{"?A / ?B => ?A & ?B", "P => P & P", 0},
		{"?A / ?B => ?A & ?B", "P / P / P => P & P", 0},
		{"?A / ?B => ?A & ?B", "P / P / P / P / P / P / P => P & P", 0},
		{orE, "P | Q / R / {Q} R => R", 1},
		{orE, "P | Q / {P; P} R / {Q} R => R", 1},
		{orE, "P | Q / {P} R / R => R", 2},
		{orE, "P | Q / {P} R / {Q; -} R => R", 2},
		{orE, "P | Q / {P} R / {Q; -; -; -; -} R => R", 2},
		{orE, "{-} P | Q / {P} R / {Q} R => R", 0},
		{orE, "{-} P | Q / R / R => R", 0},
		{orE, "P | Q / R / R => R", 1},
		// The number of premises comes first.
		{orE, "P | Q / R => R", 0},
		{orE, "P | Q / {P} R / R / R => R", 0},
		// This comes ahead of all else.
		{orE, "P / {S} Q / Q => R", 2},
		{someE, "some x S(x, y) / {S(c, y); -} Q(y) with R(y) => Q(y)", 1},
		{"closed P / P => P", "P with Q / {-} P => P", 1},
	} {
		rejects(t, row.rule, row.step, rule.FaultPrems, row.prem, 0)
	}
}

// P8.2: what does not match, and where matching ends.
func TestFaultMatch(t *testing.T) {
	const orE, four = "?A | ?B / {?A} ?C / {?B} ?C => ?C", "?A / {?A; ?B} ?B / {?B; ?C; ?A} ?C / ?D => ?D"
	for _, row := range []struct {
		rule, step  string
		prem, index int
	}{
		{"=> ?A -> ?A", "=> P -> Q", 0, 0},
		{"=> P", "=> Q", 0, 0},
		{"?A / ?B => ?A & ?B", "P / Q => P & R", 2, 0},
		{"?A / ?B => ?A & ?B", "P / Q => P | Q", 2, 0},
		{"?A -> ?B / ?A => ?B", "P & Q / P => Q", 0, 0},
		{"?A -> ?B / ?A => ?B", "P -> Q / R => Q", 1, 0},
		{"?A -> ?B / ?A => ?B", "P -> Q / P => R", 2, 0},
		// The conclusion comes last.
		{"{?A} ?B => ?A -> ?B", "{R} Q => P -> Q", 1, 0},
		{"{?A} ?B => ?A -> ?B", "{R} Q => P & Q", 1, 0},
		{orE, "P | Q / {R} S / {Q} S => S", 1, 1},
		{orE, "P | Q / {P} S / {P} S => S", 2, 1},
		{orE, "P | Q / {R} S / {R} S => S", 1, 1},
		{orE, "P | Q / {R} S / {R} S => R", 1, 1},
		{orE, "P | Q / {-} S / {R} S => S", 2, 1},
		// All conclusions of premises come ahead of what they discharge.
		{orE, "P | Q / {R} S / {Q} R => S", 2, 0},
		{orE, "P & Q / {R} S / {Q} R => S", 0, 0},
		{orE, "P | Q / {P} S / {Q} S => R", 3, 0},
		{four, "P / {P; Q} Q / {Q; R; P} R / S => S", -1, 0},
		{four, "P / {P; P} Q / {R; R; P} R / S => R", 1, 2},
		{four, "P / {P; -} Q / {R; R; P} R / S => R", 2, 1},
		{four, "P / {P; -} Q / {-; Q; Q} R / S => R", 2, 2},
		{four, "P / {-; -} Q / {-; -; Q} R / S => R", 2, 3},
		{four, "P / {-; -} Q / {-; -; -} R / S => R", 4, 0},
		{four, "P / {Q; P} Q / {P; P; Q} R / S => R", 1, 1},
		// What is there alone tells what a metavariable stands for.
		{"{?A; ?A} P => ?A -> P", "{R; Q} P => Q -> P", 0, 2},
		{"{?A; ?A} P => ?A -> P", "{-; R} P => Q -> P", 1, 0},
		// An OpInst has to wait.
		{"?A[?t/x] => some x ?A", "Q => some x P(x)", 0, 0},
		{"?A[?t/x] => some x ?A", "Q => all x P(x)", 1, 0},
		{someE, "some x P(x) / {Q(y)} Q => R", 2, 0},
		{someE, "some x P(x) / {Q(y)} Q => Q", 1, 1},
		{someE, "some x R(x, x) / {R(y, z)} Q(y) => Q(y)", 1, 1},
		{"all x ?A => ?A[?t/x]", "all x P(x) => Q(x)", 1, 0},
		{"fresh ?a ?A[?a/x] / fresh ?a ?B[?a/x] => all x (?A & ?B)", "P(y) / Q(z) => all x (P(x) & Q(x))", 1, 0},
		{"{?A[?a/x]} P / {P; ?A[?a/x]} P / ?A[?a/x] => all x ?A", "{P(y)} P / {P; P(z)} P / P(z) => all x P(x)", 0, 1},
		{"{?A[?a/x]} P / {P; ?A[?a/x]} P / ?A[?a/x] => all x ?A", "{P(y)} P / {P; P(z)} P / P(y) => all x P(x)", 1, 2},
		{"{?A[?a/x]} P / {P; ?A[?a/x]} P / ?A[?a/x] => all x ?A", "{P(y)} P / {P; P(z)} P / P(c) => some x P(x)", 3, 0},
		// This comes ahead of what is asked of names and assumptions.
		{someE, "some x S(x, y) / {S(y, y)} Q(y) with R(y) => Q(z)", 2, 0},
		{"closed ?D => []?D", "P with Q => []Q", 1, 0},
	} {
		if row.prem < 0 {
			accepts(t, row.rule, row.step, "?A: P; ?B: Q; ?C: R; ?D: S")
			continue
		}
		rejects(t, row.rule, row.step, rule.FaultMatch, row.prem, row.index)
	}
}

// P8.2: what is asked of fresh names, and of closed premises.
func TestConditions(t *testing.T) {
	const closedE, three, two = "some x ?A / closed fresh ?a {?A[?a/x]} ?C => ?C", "?A / some x ?B / fresh ?a {?B[?a/x]} ?C => ?C", "fresh ?a ?A[?a/x] / closed fresh ?b ?B[?b/x] => all x (?A & ?B)"
	for _, row := range []struct {
		rule, step  string
		kind        uint8
		prem, index int
	}{
		// A fresh name that is no variable.
		{allI, "P(c) => all x P(x)", rule.FaultVar, 0, 0},
		{allI, "P(f(y)) => all x P(x)", rule.FaultVar, 0, 0},
		{allI, "P(c) with P(c); Q(c) => all x P(x)", rule.FaultVar, 0, 0},
		{someE, "some x P(x) / {P(f(y))} Q(y) with Q(y) => Q(y)", rule.FaultVar, 1, 0},
		{"fresh ?a all y ?A[?a/x] => all x ?A", "all z P(z) => all x P(x)", rule.FaultVar, 0, 0},
		{"fresh ?a all y ?A[?a/x] / P(?a) => all x ?A", "all z P(c) / P(c) => all x P(x)", rule.FaultVar, 0, 0},
		// In the conclusion of the step.
		{allI, "R(y, y) => all x R(x, y)", rule.FaultConcl, 0, 0},
		{allI, "R(y, y) => all x R(y, x)", rule.FaultConcl, 0, 0},
		{someE, "some x P(x) / {P(y)} P(y) => P(y)", rule.FaultConcl, 1, 0},
		{"fresh ?a ?A[?a/x] => (all x ?A) & P(?a)", "Q(y) => (all x Q(x)) & P(y)", rule.FaultConcl, 0, 0},
		{"fresh ?a ?A[?a/x] => (all x ?A) & P(?a)", "Q(y) => (all x Q(x)) & P(z)", rule.FaultMatch, 0, 0},
		// In another assumption.
		{allI, "P(y) with P(y) => all x P(x)", rule.FaultRest, 0, 0},
		{allI, "P(y) with Q; all y P(y); R(x, z); P(y); P(y) => all x P(x)", rule.FaultRest, 0, 3},
		{allI, "P(y) with (all y P(y)) -> P(f(f(y))) => all x P(x)", rule.FaultRest, 0, 0},
		{someE, "some x P(x) / {P(y)} Q with P(y) => Q", rule.FaultRest, 1, 0},
		{someE, "some x P(x) with R(y) / {P(y)} Q with S; R(y) => Q", rule.FaultRest, 1, 1},
		// In what a metavariable stands for.
		{someE, "some x S(x, y) / {S(y, y)} Q => Q", rule.FaultBound, 1, 0},
		{someE, "some x (all y P(y) & Q(x, y)) / {all y P(y) & Q(y, y)} Q => Q", rule.FaultBound, 1, 0},
		{three, "P / some x S(x, y) / {S(y, y)} Q => Q", rule.FaultBound, 2, 1},
		{three, "P(y) / some x S(x, y) / {S(y, y)} Q => Q", rule.FaultBound, 2, 0},
		{three, "P(y) / some x S(x) / {S(y)} Q => Q", rule.FaultBound, 2, 0},
		{"some x ?A / ?B / ?D / fresh ?a {?A[?a/x]} ?C => ?C", "some x P(x) / Q / P(z) | P(y) / {P(y)} Q => Q", rule.FaultBound, 3, 3},
		// Other assumptions of a closed premise.
		{"closed ?D => []?D", "P with P => []P", rule.FaultClosed, 0, 0},
		{"closed ?D => []?D", "P with Q; R => []P", rule.FaultClosed, 0, 0},
		{"[]?A / closed {?A} ?D => []?D", "[]P / {P} Q with Q => []Q", rule.FaultClosed, 1, 0},
		{"[]?A / closed {?A} ?D => []?D", "[]P with Q / {-} Q with P => []Q", rule.FaultClosed, 1, 0},
		{closedE, "some x P(x) / {P(y)} Q with R(x) => Q", rule.FaultClosed, 1, 0},
		{closedE, "some x P / {P} Q with R(x) => Q", rule.FaultClosed, 1, 0},
		// The order for one premise.
		{closedE, "some x S(x, y) / {S(c, y)} Q(y) with R(y) => Q(y)", rule.FaultVar, 1, 0},
		{closedE, "some x S(x, y) / {S(y, y)} Q(y) with R; R(y) => Q(y)", rule.FaultConcl, 1, 0},
		{closedE, "some x S(x, y) / {S(y, y)} Q with R; R(y) => Q", rule.FaultRest, 1, 1},
		{closedE, "some x S(x, y) / {S(y, y)} Q with R => Q", rule.FaultBound, 1, 0},
		{closedE, "some x S(x) / {S(y)} Q with R => Q", rule.FaultClosed, 1, 0},
		// Premises one after the other.
		{two, "P(y) with P(y) / Q(c) with Q(c) => all x (P(x) & Q(x))", rule.FaultRest, 0, 0},
		{two, "P(y) / Q(c) with Q(c) => all x (P(x) & Q(x))", rule.FaultVar, 1, 0},
		{two, "P(c) / Q(c) with Q(c) => all x (P(x) & Q(x))", rule.FaultVar, 0, 0},
		{two, "P(y) / Q(z) with Q(z) => all x (P(x) & Q(x))", rule.FaultRest, 1, 0},
		{two, "P(y) with P(z) / Q(z) with Q(y) => all x (P(x) & Q(x))", rule.FaultClosed, 1, 0},
		{two, "P(y) / S(z, z) => all x (P(x) & S(x, z))", rule.FaultConcl, 1, 0},
		{two, "P / S(z, z) with P => all x (P & S(x, z))", rule.FaultConcl, 1, 0},
		{"closed ?A / fresh ?a ?B[?a/x] => ?A & all x ?B", "P with Q / P(c) => P & all x P(x)", rule.FaultClosed, 0, 0},
		{"closed ?A / fresh ?a ?B[?a/x] => ?A & all x ?B", "P / P(c) with Q => P & all x P(x)", rule.FaultVar, 1, 0},
		{"fresh ?a ?A[?a/x] / fresh ?a ?B[?a/x] => all x (?A & ?B)", "P(y) / Q(y) with R(y) => all x (P(x) & Q(x))", rule.FaultRest, 1, 0},
		// The name may be known by another premise alone.
		{"fresh ?a ?A[?a/x] / ?B[?a/x] => all x (?A & ?B)", "P with R(y) / Q(y) => all x (P & Q(x))", rule.FaultRest, 0, 0},
		{"fresh ?a {?A[?a/x]} P / P(?a) => all x ?A", "{-} P with R(y) / P(y) => all x Q(x)", rule.FaultRest, 0, 0},
	} {
		rejects(t, row.rule, row.step, row.kind, row.prem, row.index)
	}
}

// notRight are formulas that are not right.
func notRight() []api.Form {
	return append(badSchemas(), meta("?A"), inst("?A", "?t", "x"), atom("P", variable("?t")), not(not(wide(100, not(not(atom("P")))))), atom("P", function("f", variable("?x"))))
}

// P8.2: all formulas of a step are right; those of assumptions that are not there do not matter.
func TestApplyArguments(t *testing.T) {
	const orE = "?A | ?B / {?A} ?C / {?B} ?C => ?C"
	put := []func(concl *api.Form, l []rule.Got, f api.Form){
		func(concl *api.Form, l []rule.Got, f api.Form) { *concl = f },
		func(concl *api.Form, l []rule.Got, f api.Form) { l[0].Concl = f },
		func(concl *api.Form, l []rule.Got, f api.Form) { l[2].Concl = f },
		func(concl *api.Form, l []rule.Got, f api.Form) { l[1].Hyps[0].Form = f },
		func(concl *api.Form, l []rule.Got, f api.Form) { l[2].Hyps[0].Form = f },
		func(concl *api.Form, l []rule.Got, f api.Form) {
			l[2].Hyps = append(l[2].Hyps, rule.Hyp{}, rule.Hyp{Some: true, Form: f})
		},
		func(concl *api.Form, l []rule.Got, f api.Form) { l[0].Rest[0] = f },
		func(concl *api.Form, l []rule.Got, f api.Form) { l[2].Rest[1] = f },
	}
	isArg := func(r api.Rule, concl api.Form, l []rule.Got) bool {
		b, f, e := rule.Apply(r, concl, l)
		return e == api.ErrArg && f == (rule.Fault{}) && same(b, match.Binding{})
	}
	// A step that is right, one that does not match, and one with another number of premises.
	for _, s := range []string{"P | Q with S / {P} R / {Q} R with P; Q => R", "P & Q with S / {P} Q / {R} S with P; Q => P", "P | Q with S / {P} R / {Q} R with P; Q / P => R"} {
		for i, change := range put {
			for k, f := range notRight() {
				concl, l := stepOf(s)
				change(&concl, l, f)
				if !isArg(ruleOf(orE), concl, l) {
					t.Errorf("%s, place %d, formula %d", s, i, k)
				}
			}
		}
		concl, l := stepOf(s)
		r := ruleOf(orE)
		r.Prems[2].Hyps[0] = meta("?D")
		if !isArg(r, concl, l) {
			t.Error(s, "a rule that is not right")
		}
	}
	for k, f := range notRight() {
		concl, l := stepOf("P | Q / {P} R / {-} R => R")
		l[2].Hyps[0].Form = f
		if b, fault, e := rule.Apply(ruleOf(orE), concl, l); e != api.OK || fault != (rule.Fault{}) || !same(b, binding("?A: P; ?B: Q; ?C: R")) {
			t.Errorf("formula %d of what is not there: %d", k, e)
		}
	}
	if !isArg(api.Rule{}, form("P"), nil) || !isArg(ruleOf("=> P"), api.Form{}, nil) {
		t.Error("zero arguments")
	}
}

// Nothing and an empty list are the same.
func TestApplyEmpty(t *testing.T) {
	r, l := ruleOf("?A => ?A"), []rule.Got{{Concl: form("P")}}
	for range 2 {
		if b, f, e := rule.Apply(r, form("P"), l); !same(b, binding("?A: P")) || f != (rule.Fault{}) || e != api.OK {
			t.Error(b, f, e)
		}
		r.Prems[0].Hyps, l[0].Hyps, l[0].Rest = []api.Form{}, []rule.Hyp{}, []api.Form{}
		r.Prems[0].Closed = true
	}
	r = ruleOf("=> P")
	r.Prems = []api.Prem{}
	for _, l := range [][]rule.Got{nil, {}} {
		if _, f, e := rule.Apply(r, form("P"), l); f != (rule.Fault{}) || e != api.OK {
			t.Error(f, e)
		}
	}
}

// P8.2: formulas of the limits' size, many assumptions, and four premises that discharge three each.
func TestApplyLarge(t *testing.T) {
	big := not(wide(200, atom("P")))
	r := ruleOf("?A / {?A} ?A => ?A | ?B")
	concl, l := api.Form{Op: api.OpOr, Sub: []api.Form{form("P"), atom("Q")}}, []rule.Got{{Concl: form("P")}, {Concl: form("P"), Hyps: []rule.Hyp{{Some: true, Form: form("P")}}}}
	l[1].Rest = append(slices.Repeat([]api.Form{big}, 2000), atom("Q", variable("y")))
	if _, _, e := rule.Apply(r, concl, l); e != api.OK {
		t.Error(e)
	}
	if b, _, e := rule.Apply(ruleOf("?A => ?A"), big, []rule.Got{{Concl: big}}); e != api.OK || len(b.Forms) != 1 {
		t.Error(e)
	}
	r = ruleOf(allI)
	l = []rule.Got{{Concl: atom("P", variable("y")), Rest: l[1].Rest}}
	if _, f, e := rule.Apply(r, form("all x P(x)"), l); e != rule.ErrStep || f != (rule.Fault{Kind: rule.FaultRest, Index: 2000}) {
		t.Error(f, e)
	}
	l[0].Rest = append(l[0].Rest, nots(40, atom("P")))
	if _, f, e := rule.Apply(r, form("all x P(x)"), l); e != api.ErrArg || f != (rule.Fault{}) {
		t.Error(f, e)
	}
	full := "{?A; ?B; ?C} ?A / {?A; ?B; ?C} ?B / {?A; ?B; ?C} ?C / {?A; ?B; ?C} ?D => ?D"
	accepts(t, full, "{P; Q; R} P / {P; Q; R} Q / {P; Q; R} R / {P; Q; R} S => S", "?A: P; ?B: Q; ?C: R; ?D: S")
	rejects(t, full, "{P; Q; R} P / {P; Q; R} Q / {P; Q; R} R / {P; Q; S} S => S", rule.FaultMatch, 3, 3)
	if _, f, e := rule.Apply(ruleOf("P => P"), form("P"), make([]rule.Got, 1000)); e != api.ErrArg || f != (rule.Fault{}) {
		t.Error(f, e)
	}
	many := slices.Repeat([]rule.Got{{Concl: form("P"), Hyps: make([]rule.Hyp, 100)}}, 10000)
	if _, f, e := rule.Apply(ruleOf("P => P"), form("P"), many); e != rule.ErrStep || f != (rule.Fault{Kind: rule.FaultPrems}) {
		t.Error(f, e)
	}
}

// The limits of the whole allow 2^16 levels, and parts that stand in the same memory.
func TestApplyDeep(t *testing.T) {
	deep, term := nots(1<<16-10, atom("P")), variable("y")
	for range 1<<16 - 10 {
		term = function("f", term)
	}
	shared := form("P")
	for range 100 {
		shared = and(shared, shared)
	}
	for i, f := range []api.Form{deep, atom("P", term), shared} {
		p := rule.Got{Concl: form("P"), Hyps: []rule.Hyp{{Form: f}}}
		if _, _, e := rule.Apply(ruleOf("{?A} ?A => ?A"), form("P"), []rule.Got{p}); e != api.OK {
			t.Error(i, e)
		}
		p.Rest = []api.Form{f}
		if _, _, e := rule.Apply(ruleOf("{?A} ?A => ?A"), form("P"), []rule.Got{p}); e != api.ErrArg {
			t.Error(i, e)
		}
		if _, _, e := rule.Apply(ruleOf("?A => ?A"), f, []rule.Got{{Concl: f}}); e != api.ErrArg {
			t.Error(i, e)
		}
		if l, b, e := rule.Back(ruleOf("?A => ?A"), f, match.Binding{}, nil); e != api.ErrArg || len(l) > 0 || !same(b, match.Binding{}) {
			t.Error(i, e)
		}
		r := ruleOf("?A => ?A")
		r.Prems[0].Hyps = []api.Form{f}
		if rule.Right(r) {
			t.Error(i)
		}
	}
}

package rule_test

import (
	"slices"
	"strings"
	"testing"

	"lyceum/api"
	"lyceum/rule"
)

// library is the rules of the library of layer 9.
var library = []string{
	"?A / ?B => ?A & ?B", "?A & ?B => ?A", "?A & ?B => ?B", "?A => ?A | ?B", "?B => ?A | ?B", "?A | ?B / {?A} ?C / {?B} ?C => ?C",
	"{?A} ?B => ?A -> ?B", "?A -> ?B / ?A => ?B", "{?A} false => ~?A", "?A / ~?A => false", "false => ?A",
	"{?A} ?B / {?B} ?A => ?A <-> ?B", "?A <-> ?B / ?A => ?B", "?A <-> ?B / ?B => ?A", "{~?A} false => ?A",
	allI, "all x ?A => ?A[?t/x]", "?A[?t/x] => some x ?A", someE,
	"closed ?D => []?D", "[]?A / closed {?A} ?D => []?D", "[]?A / []?B / closed {?A; ?B} ?D => []?D", "[]?A / []?B / []?C / closed {?A; ?B; ?C} ?D => []?D",
	"~[]~?A => <>?A", "<>?A => ~[]~?A", "[]?A => ?A", "[]?A => [][]?A", "<>?A => []<>?A",
	"closed ?D => next ?D", "next ?A / closed {?A} ?D => next ?D", "next ?A / next ?B / next ?C / closed {?A; ?B; ?C} ?D => next ?D",
	"~next ?A => next ~?A", "next ~?A => ~next ?A", "always ?A => next always ?A", "?A / closed {?A} next ?A => always ?A",
	"?B => ?A until ?B", "?A / next (?A until ?B) => ?A until ?B", "?A until ?B / closed {?B} ?C / closed {?A; next ?C} ?C => ?C",
}

// P8.1: which rules are right.
func TestRight(t *testing.T) {
	for _, s := range library {
		if !rule.Right(ruleOf(s)) {
			t.Error(s)
		}
	}
	for _, row := range []struct {
		rule string
		want bool
	}{
		{"=> P", true},
		{"=> ?A -> ?A", true},
		{"=> all x P(x, ?t)", true},
		{"P(?s) / {P(?r)} Q => P(?t)", true},
		// At most 4 premises.
		{"P / P / P / P => P", true},
		{"P / P / P / P / P => P", false},
		// At most 3 assumptions of a premise.
		{"{P; P; P} P / {P; P; P} P / {P; P; P} P / {P; P; P} P => P", true},
		{"{P; P; P; P} P => P", false},
		{"P / P / P / {P; P; P; P} P => P", false},
		// A metavariable of formulas stands as an OpMeta in a conclusion.
		{"=> ?A[?t/x]", false},
		{"=> ?A & ?A[?t/x]", true},
		{"=> ?A[?t/x] & ?A", true},
		{"?A[?t/x] => ?A", true},
		{"?A => ?A[?t/x]", true},
		{"?A[?t/x] => P", false},
		{"?A[?t/x] => ?B", false},
		{"P / ?A[?t/x] / Q / ?A => P", true},
		{"{?A} P => P", false},
		{"{?A} ?A => P", true},
		{"{?A} P => ?A", true},
		{"{?A} P / ?A => P", true},
		{"?A / {?A} P => P", true},
		{"{?A[?t/x]} P => P", false},
		{"{?A; ?A[?t/x]} P => P", false},
		{"{P; ?A[?t/x]} P / {?A} P => P", false},
		{"{?A[?t/x]} P => some x ~?A", true},
		{"{?A[?t/x]} [](?A -> P) => P", true},
		{"{P; Q; ?B} P / ?A => ?A & ~?A", false},
		{"{P; Q; ~(P | ?B)} P / ?A => ?A & ~?A", false},
		{"{P; Q; ?B} P / ?A => ?A & ~?B", true},
		{"?A[?t/x] & ?B[?t/x] => ?A", false},
		{"?A[?t/x] & ?B[?t/x] => ?B", false},
		{"?A[?t/x] & ?B[?t/x] => ?A & ?B", true},
		{"?Ab[?t/x] => ?A", false},
		// A Fresh stands in an OpInst of its premise.
		{"fresh ?a ?A => ?A", false},
		{"fresh ?a ?A[?a/x] => ?A", true},
		{"fresh ?a ?A[?b/x] => ?A", false},
		{"fresh ?a P(?a) => P(?a)", false},
		{"fresh ?a {S(x, ?a)} S(x, ?a) => ?A[?a/x] & ?A", false},
		{"fresh ?a ?A / ?A[?a/x] => ?A", false},
		{"?A[?a/x] / fresh ?a ?A => ?A", false},
		{"fresh ?a ?A => ?A[?a/x]", false},
		{"fresh ?a {?A[?a/x]} P => ?A", true},
		{"fresh ?a {P; ?A; ?A[?a/x]} P => ?A", true},
		{"fresh ?a {P; ?A[?a/x]; Q} P => ?A", true},
		{"fresh ?a {P; ?A[?b/x]; Q} P(?a) => ?A", false},
		{"fresh ?a all z (P -> ~?A[?a/x]) => ?A", true},
		{"fresh ?a {P(?a)} P(?a) / {?A[?a/x]} ?A[?a/x] => ?A", false},
		{"?A[?a/x] / fresh ?a ?A[?a/x] / ?A[?a/x] => ?A", true},
		{"fresh ?a ?A[?a/x] / fresh ?a ?A[?a/x] => ?A", true},
		{"fresh ?a ?A[?a/x] / fresh ?b ?A[?a/x] => ?A", false},
		{"fresh ?a ?A[?a/x] & ?A[?b/x] => ?A", true},
		{"fresh ?b ?A[?a/x] & ?A[?b/x] => ?A", true},
		{"fresh ?A ?A[?a/x] => ?A", false},
		{"fresh ?x ?A[?a/x] => ?A", false},
		{"fresh x ?A[?a/x] => ?A", false},
		{"fresh a ?A[?a/x] => ?A", false},
		{"fresh ? ?A[?a/x] => ?A", false},
		{"closed fresh ?a ?A[?a/x] => ?A", true},
	} {
		if got := rule.Right(ruleOf(row.rule)); got != row.want {
			t.Errorf("%s: %v", row.rule, got)
		}
	}
}

// P8.1: the names of rules.
func TestRightNames(t *testing.T) {
	for _, row := range []struct {
		name string
		want bool
	}{
		{"a", true}, {"Z", true}, {"andI", true}, {"orE1", true}, {"x1", true}, {"all", true}, {"P", true},
		{"abcdefghijklmnop", true}, {"A234567890123456", true}, {"abcdefghijklmnopq", false}, {"A2345678901234567", false}, {strings.Repeat("a", 1000), false},
		{"", false}, {"1", false}, {"1a", false}, {"a_", false}, {"_a", false}, {"a b", false}, {" a", false}, {"a ", false}, {"?", false}, {"?A", false}, {"a-b", false}, {"a\x00", false}, {"\x00", false},
		{"\u00e9", false}, {"a\u00e9", false}, {"a\u0661", false}, {"a\xff", false}, {"\xff", false}, {"a@", false}, {"a[", false}, {"a`", false}, {"a{", false}, {"a/", false}, {"a:", false}, {"@", false}, {"[", false}, {"`", false}, {"{", false},
		{"zZ09aA", true},
	} {
		r := ruleOf("P => P")
		r.Name = row.name
		if got := rule.Right(r); got != row.want {
			t.Errorf("%q: %v", row.name, got)
		}
		e := api.ErrArg
		if row.want {
			e = api.OK
		}
		if _, _, d := rule.Apply(r, form("P"), []rule.Got{{Concl: form("P")}}); d != e {
			t.Errorf("%q: %d", row.name, d)
		}
	}
}

// badSchemas are no right schemas.
func badSchemas() []api.Form {
	deep := atom("P")
	for range 100 {
		deep = and(deep, deep)
	}
	return []api.Form{
		{}, {Op: 17}, {Op: api.OpFalse, Name: "P"}, atom("p"), atom(""), meta("A"), meta("?a"), meta("?"), inst("?A", "?B", "x"), inst("?A", "t", "x"), inst("?A", "?t", "?x"), inst("?A", "?t", "a"), inst("?a", "?t", "x"),
		{Op: api.OpInst, Name: "?A"}, {Op: api.OpInst, Name: "?A", Args: []api.Term{variable("x")}}, {Op: api.OpMeta, Name: "?A", Args: []api.Term{variable("x")}},
		{Op: api.OpNot}, {Op: api.OpAnd, Sub: []api.Form{meta("?A")}}, {Op: api.OpAll, Name: "?x", Sub: []api.Form{meta("?A")}}, atom("P", variable("?x")), atom("P", variable("?A")), atom("P", function("x")),
		nots(40, meta("?A")), not(not(wide(200, meta("?A")))), wide(201, atom("P")), deep,
	}
}

// P8.1: each schema of a rule is right.
func TestRightSchemas(t *testing.T) {
	put := []func(r *api.Rule, f api.Form){
		func(r *api.Rule, f api.Form) { r.Concl = f },
		func(r *api.Rule, f api.Form) { r.Prems[0].Concl = f },
		func(r *api.Rule, f api.Form) { r.Prems[1].Concl = f },
		func(r *api.Rule, f api.Form) { r.Prems[1].Hyps[0] = f },
		func(r *api.Rule, f api.Form) { r.Prems[1].Hyps[2] = f },
		func(r *api.Rule, f api.Form) { r.Prems[3].Hyps[1] = f },
	}
	for i, change := range put {
		for k, f := range badSchemas() {
			r := ruleOf("P / {P; Q; R} Q / ?A / {P; Q; R} Q => Q")
			change(&r, f)
			if rule.Right(r) {
				t.Errorf("place %d, schema %d", i, k)
			}
		}
		for k, f := range []api.Form{meta("?A"), inst("?A", "?t", "x"), not(wide(200, meta("?A"))), nots(39, meta("?A")), atom("P", variable("?t")), form("all x (?A -> P until <>always Q(x, f(?s)))")} {
			r := ruleOf("P / {P; Q; R} Q / ?A / {P; Q; R} Q => Q")
			change(&r, f)
			if !rule.Right(r) {
				t.Errorf("place %d, right schema %d", i, k)
			}
		}
	}
	if rule.Right(api.Rule{}) || rule.Right(api.Rule{Name: "a"}) || rule.Right(api.Rule{Concl: atom("P")}) || !rule.Right(api.Rule{Name: "a", Concl: atom("P")}) {
		t.Error("zero rules")
	}
}

// P8.1: schemas of the limits' size, whose metavariable is told at their end.
func TestRightLarge(t *testing.T) {
	chain := nots(38, inst("?B", "?t", "x"))
	long := and(wide(99, atom("P")), and(wide(98, atom("Q")), inst("?B", "?a", "x")))
	for _, f := range []api.Form{chain, long} {
		r := api.Rule{Name: "r", Concl: atom("P"), Prems: slices.Repeat([]api.Prem{{Concl: f, Hyps: []api.Form{f, f, f}}}, 4)}
		if rule.Right(r) {
			t.Error("a metavariable that does not stand in a conclusion")
		}
		r.Concl = nots(39, meta("?B"))
		if !rule.Right(r) {
			t.Error("one that does")
		}
		r.Prems[3].Fresh = "?a"
		if want := f.Op == api.OpAnd; rule.Right(r) != want {
			t.Error("Fresh", want)
		}
	}
	// Very many premises and assumptions are too many.
	if rule.Right(api.Rule{Name: "r", Concl: atom("P"), Prems: make([]api.Prem, 1<<20)}) {
		t.Error("premises")
	}
	if rule.Right(api.Rule{Name: "r", Concl: atom("P"), Prems: []api.Prem{{Concl: atom("P"), Hyps: slices.Repeat([]api.Form{atom("P")}, 1<<16)}}}) {
		t.Error("assumptions")
	}
}

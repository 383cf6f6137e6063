package format_test

import (
	"strings"
	"testing"

	"lyceum/api"
	"lyceum/format"
)

// P6.1: formulas without parts.
func TestBasic(t *testing.T) {
	x, y, a := variable("x"), variable("y10"), function("a")
	for _, row := range []struct {
		f            api.Form
		text, prefix string
	}{
		{atom("P"), "P", "P"},
		{atom("Even2"), "Even2", "Even2"},
		{atom("P", x), "P(x)", "P(x)"},
		{atom("P", a), "P(a)", "P(a)"},
		{atom("P", x, y), "P(x, y10)", "P(x,y10)"},
		{atom("P", y, a, x, a), "P(y10, a, x, a)", "P(y10,a,x,a)"},
		{atom("P", function("f", x)), "P(f(x))", "P(f(x))"},
		{atom("P", function("f", x, function("g", a, y)), a), "P(f(x, g(a, y10)), a)", "P(f(x,g(a,y10)),a)"},
		{atom("P", variable("?t"), function("h", variable("?s1"), x)), "P(?t, h(?s1, x))", "P(?t,h(?s1,x))"},
		{api.Form{Op: api.OpFalse}, "false", "false"},
		{meta("?A"), "?A", "?A"},
		{meta("?Until"), "?Until", "?Until"},
		{inst("?A", "?t", "x"), "?A[?t/x]", "?A[?t/x]"},
		{inst("?Phi", "?s", "z9"), "?Phi[?s/z9]", "?Phi[?s/z9]"},
	} {
		writes(t, row.f, row.text, row.text, row.prefix)
	}
}

// ahead has the operators of one part, with what stands ahead of the part in texts and in prefix texts.
var ahead = []struct {
	op           uint8
	name         string
	text, prefix string
}{
	{api.OpNot, "", "~", "~ "},
	{api.OpBox, "", "[]", "[] "},
	{api.OpDia, "", "<>", "<> "},
	{api.OpNext, "", "next ", "next "},
	{api.OpAlways, "", "always ", "always "},
	{api.OpAll, "x", "all x ", "all x "},
	{api.OpSome, "u23", "some u23 ", "some u23 "},
}

// between has the operators of two parts. Beside the sign of each one are those that are in brackets on its left, and on its right.
var between = []struct {
	op          uint8
	sign        string
	left, right string
}{
	{api.OpIff, "<->", "", "<->"},
	{api.OpImp, "->", "-> <->", "<->"},
	{api.OpUntil, "until", "until -> <->", "-> <->"},
	{api.OpOr, "|", "until -> <->", "| until -> <->"},
	{api.OpAnd, "&", "| until -> <->", "& | until -> <->"},
}

// P6.1: an operator of one part, ahead of all kinds of parts: its part is in brackets if it has a sign between two.
func TestOneAhead(t *testing.T) {
	P, Q := atom("P", variable("x")), atom("Q")
	for _, a := range ahead {
		put := func(f api.Form) api.Form { return bound(a.op, a.name, f) }
		for _, p := range []api.Form{P, Q, {Op: api.OpFalse}, meta("?A"), inst("?B", "?t", "y")} {
			s, _ := format.Form(p)
			writes(t, put(p), a.text+s, a.text+s, a.prefix+s)
		}
		for _, b := range ahead {
			text := a.text + b.text + "P(x)"
			writes(t, put(bound(b.op, b.name, P)), text, text, a.prefix+b.prefix+"P(x)")
		}
		for _, b := range between {
			text := a.text + "(P(x) " + b.sign + " Q)"
			writes(t, put(two(b.op, P, Q)), text, text, a.prefix+b.sign+" P(x) Q")
		}
	}
}

// P6.1: an operator of two parts, with one ahead on its left or on its right.
func TestOneWithinTwo(t *testing.T) {
	P, Q := atom("P"), atom("Q")
	for _, a := range ahead {
		for _, b := range between {
			p := bound(a.op, a.name, P)
			text := a.text + "P " + b.sign + " Q"
			writes(t, two(b.op, p, Q), text, text, b.sign+" "+a.prefix+"P Q")
			text = "Q " + b.sign + " " + a.text + "P"
			writes(t, two(b.op, Q, p), text, text, b.sign+" Q "+a.prefix+"P")
		}
	}
}

// P6.1: each operator of two parts within each other one, on its left, on its right, and on both sides.
func TestTwoWithinTwo(t *testing.T) {
	P, Q, R, S := atom("P"), atom("Q"), atom("R"), atom("S")
	for _, a := range between {
		for _, b := range between {
			sign, inner := " "+a.sign+" ", "P "+b.sign+" Q"
			left, right := inner, inner
			if has(a.left, b.sign) {
				left = "(" + inner + ")"
			}
			if has(a.right, b.sign) {
				right = "(" + inner + ")"
			}
			f, g := two(b.op, P, Q), two(b.op, R, S)
			writes(t, two(a.op, f, R), left+sign+"R", "("+inner+")"+sign+"R", a.sign+" "+b.sign+" P Q R")
			writes(t, two(a.op, R, f), "R"+sign+right, "R"+sign+"("+inner+")", a.sign+" R "+b.sign+" P Q")
			other := strings.NewReplacer("P", "R", "Q", "S").Replace(right)
			writes(t, two(a.op, f, g), left+sign+other, "("+inner+")"+sign+"(R "+b.sign+" S)", a.sign+" "+b.sign+" P Q "+b.sign+" R S")
		}
	}
}

// has reports whether a sign is in a list of signs.
func has(list, sign string) bool {
	for _, s := range strings.Fields(list) {
		if s == sign {
			return true
		}
	}
	return false
}

// P6.1: all levels in one formula, and brackets within brackets.
func TestLevels(t *testing.T) {
	P, Q, R, S := atom("P"), atom("Q"), atom("R"), atom("S")
	f := iff(imp(until(or(and(not(P), Q), R), S), P), Q)
	writes(t, f, "~P & Q | R until S -> P <-> Q", "((((~P & Q) | R) until S) -> P) <-> Q", "<-> -> until | & ~ P Q R S P Q")
	f = and(P, or(Q, until(R, imp(S, iff(P, not(Q))))))
	writes(t, f, "P & (Q | (R until (S -> (P <-> ~Q))))", "P & (Q | (R until (S -> (P <-> ~Q))))", "& P | Q until R -> S <-> P ~ Q")
	f = imp(imp(imp(P, Q), R), imp(S, imp(P, Q)))
	writes(t, f, "((P -> Q) -> R) -> S -> P -> Q", "((P -> Q) -> R) -> (S -> (P -> Q))", "-> -> -> P Q R -> S -> P Q")
	f = iff(iff(iff(P, Q), R), iff(S, iff(P, Q)))
	writes(t, f, "P <-> Q <-> R <-> (S <-> (P <-> Q))", "((P <-> Q) <-> R) <-> (S <-> (P <-> Q))", "<-> <-> <-> P Q R <-> S <-> P Q")
	f = until(until(P, until(Q, R)), until(S, until(P, Q)))
	writes(t, f, "(P until Q until R) until S until P until Q", "(P until (Q until R)) until (S until (P until Q))", "until until P until Q R until S until P Q")
	f = or(or(or(P, Q), or(R, S)), and(and(P, Q), and(R, S)))
	writes(t, f, "P | Q | (R | S) | P & Q & (R & S)", "((P | Q) | (R | S)) | ((P & Q) & (R & S))", "| | | P Q | R S & & P Q & R S")
	f = not(bound(api.OpSome, "x", one(api.OpDia, and(one(api.OpNext, or(P, Q)), not(not(R))))))
	writes(t, f, "~some x <>(next (P | Q) & ~~R)", "~some x <>(next (P | Q) & ~~R)", "~ some x <> & next | P Q ~ ~ R")
	f = imp(P, imp(bound(api.OpAll, "y", imp(P, Q)), one(api.OpAlways, and(P, Q))))
	writes(t, f, "P -> all y (P -> Q) -> always (P & Q)", "P -> (all y (P -> Q) -> always (P & Q))", "-> P -> all y -> P Q always & P Q")
}

// P6.1: texts of terms.
func TestTerm(t *testing.T) {
	x, a := variable("x"), function("a")
	check(t, "Term", format.Term, x, "x")
	check(t, "Term", format.Term, variable("w0123456789"), "w0123456789")
	check(t, "Term", format.Term, a, "a")
	check(t, "Term", format.Term, function("f2G", x), "f2G(x)")
	check(t, "Term", format.Term, function("f", x, a), "f(x, a)")
	check(t, "Term", format.Term, function("f", x, a, function("g"), variable("u")), "f(x, a, g, u)")
	check(t, "Term", format.Term, function("f", function("g", function("h", x, a)), function("g", a)), "f(g(h(x, a)), g(a))")
	check(t, "Term", format.Term, variable("?t"), "?t")
	check(t, "Term", format.Term, function("f", variable("?s9"), function("g", variable("?t"))), "f(?s9, g(?t))")
	check(t, "Term", format.Term, api.Term{Name: "a", Args: []api.Term{}}, "a")
	check(t, "Term", format.Term, api.Term{Var: true, Name: "x", Args: []api.Term{}}, "x")
}

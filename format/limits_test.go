package format_test

import (
	"strings"
	"testing"

	"lyceum/api"
	"lyceum/format"
	"lyceum/syntax"
)

// tower is so many functions, each around the next one, and a term within them.
func tower(n int, t api.Term) api.Term {
	for range n {
		t = function("f", t)
	}
	return t
}

// chain is a formula of so many signs &, grouped from the left or from the right: it has one level more than signs.
func chain(n int, fromRight bool) api.Form {
	f := atom("P")
	for range n {
		if fromRight {
			f = and(atom("P"), f)
		} else {
			f = and(f, atom("P"))
		}
	}
	return f
}

// big is a formula of so many nodes: a tree of signs -> over atoms, as flat as can be.
func big(nodes int) api.Form {
	switch {
	case nodes == 1:
		return atom("P")
	case nodes == 2:
		return not(atom("P"))
	}
	left := (nodes - 1) / 2
	return imp(big(left), big(nodes-1-left))
}

// P6.1: the limits of formulas: a depth of 40.
func TestDepth(t *testing.T) {
	n := api.MaxDepth - 1
	writes(t, chain(n, false), strings.Repeat("P & ", n)+"P", strings.Repeat("(", n-1)+"P & P"+strings.Repeat(") & P", n-1), strings.Repeat("& ", n)+"P"+strings.Repeat(" P", n))
	text := strings.Repeat("P & (", n-1) + "P & P" + strings.Repeat(")", n-1)
	writes(t, chain(n, true), text, text, strings.Repeat("& P ", n)+"P")
	rejects(t, chain(n+1, false))
	rejects(t, chain(n+1, true))
	f := atom("P", tower(n-1, variable("x")))
	text = "P(" + strings.Repeat("f(", n-1) + "x" + strings.Repeat(")", n)
	writes(t, f, text, text, text)
	rejects(t, atom("P", tower(n, variable("x"))))
	rejects(t, not(f))
}

// P6.1: the limits of formulas: 400 nodes.
func TestNodes(t *testing.T) {
	for _, nodes := range []int{api.MaxNodes - 1, api.MaxNodes} {
		f := big(nodes)
		s, e := format.Form(f)
		full, e2 := format.Full(f)
		prefix, e3 := format.Prefix(f)
		if e != api.OK || e2 != api.OK || e3 != api.OK || strings.Count(prefix, " ") != nodes-1 || strings.ReplaceAll(strings.ReplaceAll(s, "(", ""), ")", "") != strings.ReplaceAll(strings.ReplaceAll(full, "(", ""), ")", "") {
			t.Errorf("%d nodes: %q, %d; %q, %d; %q, %d", nodes, s, e, full, e2, prefix, e3)
		}
	}
	rejects(t, big(api.MaxNodes+1))
	rejects(t, big(100000))
}

// P6.1: the limits of names, and of arguments.
func TestNames(t *testing.T) {
	long := strings.Repeat("a", 15)
	x16, f16, p16 := "x"+strings.Repeat("7", 15), "f"+long, "P"+long
	args := []api.Term{variable(x16), function(f16), variable("?" + long), function("a")}
	text := p16 + "(" + x16 + ", " + f16 + ", ?" + long + ", a)"
	writes(t, atom(p16, args...), text, text, strings.ReplaceAll(text, " ", ""))
	writes(t, bound(api.OpSome, x16, atom("P")), "some "+x16+" P", "some "+x16+" P", "some "+x16+" P")
	text = "?" + p16[:15] + "[?" + long + "/" + x16 + "]"
	writes(t, inst("?"+p16[:15], "?"+long, x16), text, text, text)
	rejects(t, atom(p16+"a"))
	rejects(t, atom("P", variable(x16+"7")))
	rejects(t, atom("P", function(f16+"a")))
	rejects(t, meta("?"+p16))
	rejects(t, inst("?A", "?"+f16, "x"))
	rejects(t, atom("P", append(args, args[0])...))
	rejects(t, atom("P", function("f", append(args, args[0])...)))
}

// wrongForms has formulas that are no right schemas.
func wrongForms() []api.Form {
	P, x, a := atom("P"), variable("x"), function("a")
	l := []api.Form{
		{}, {Op: 17}, {Op: 18, Sub: []api.Form{P}}, {Op: 255, Name: "P"}, {Op: 128, Sub: []api.Form{P, P}},
		atom(""), atom("p"), atom("x"), atom("?A"), atom("P_"), atom("P Q"), atom("P(x)"), atom("false"), atom("\xff"),
		atom("P", api.Term{}), atom("P", function("P")), atom("P", variable("a")), atom("P", function("x")), atom("P", function("all")), atom("P", variable("?A")), atom("P", function("?t")), atom("P", a, api.Term{Var: true, Name: "x", Args: []api.Term{a}}), atom("P", function("f", a, variable("b"))),
		{Op: api.OpAtom, Name: "P", Sub: []api.Form{P}},
		{Op: api.OpFalse, Name: "false"}, {Op: api.OpFalse, Args: []api.Term{a}}, {Op: api.OpFalse, Sub: []api.Form{P}},
		meta(""), meta("A"), meta("?"), meta("?t"), meta("?x"), meta("?all"), {Op: api.OpMeta, Name: "?A", Args: []api.Term{x}}, {Op: api.OpMeta, Name: "?A", Sub: []api.Form{P}},
		inst("A", "?t", "x"), inst("?t", "?t", "x"), inst("?A", "x", "x"), inst("?A", "t", "x"), inst("?A", "?B", "x"), inst("?A", "?t", "?t"), inst("?A", "?t", "a"), inst("?A", "?t", ""),
		{Op: api.OpInst, Name: "?A"}, {Op: api.OpInst, Name: "?A", Args: []api.Term{x}}, {Op: api.OpInst, Name: "?A", Args: []api.Term{variable("?t"), x}}, {Op: api.OpInst, Name: "?A", Args: []api.Term{x, variable("?t"), x}}, {Op: api.OpInst, Name: "?A", Args: []api.Term{x, variable("?t")}, Sub: []api.Form{P}}, {Op: api.OpInst, Name: "?A", Args: []api.Term{function("x"), variable("?t")}},
	}
	for _, a := range ahead {
		l = append(l, api.Form{Op: a.op, Name: a.name}, api.Form{Op: a.op, Name: a.name, Sub: []api.Form{P, P}}, api.Form{Op: a.op, Name: a.name, Sub: []api.Form{P}, Args: []api.Term{x}}, bound(a.op, "P", P), bound(a.op, "a", P), bound(a.op, "?t", P))
		if a.name == "" {
			l = append(l, bound(a.op, "x", P))
		} else {
			l = append(l, bound(a.op, "", P))
		}
	}
	for _, b := range between {
		l = append(l, api.Form{Op: b.op}, one(b.op, P), api.Form{Op: b.op, Sub: []api.Form{P, P, P}}, api.Form{Op: b.op, Name: "x", Sub: []api.Form{P, P}}, api.Form{Op: b.op, Args: []api.Term{x}, Sub: []api.Form{P, P}})
	}
	return l
}

// P6.1, P6.2: what is no right schema is ErrArg, wherever it stands in a formula or in a list.
func TestWrongForms(t *testing.T) {
	P := atom("P")
	for _, f := range wrongForms() {
		rejects(t, f)
		rejects(t, not(f))
		rejects(t, and(f, P))
		rejects(t, imp(not(P), bound(api.OpAll, "x", f)))
	}
}

// P6.1: what is no right term is ErrArg, wherever it stands.
func TestWrongTerms(t *testing.T) {
	a := function("a")
	for _, u := range []api.Term{
		{}, {Var: true}, function(" "), function("P"), function("x"), function("u1"), function("some"), function("until"), function("?t"), function("f_"), function("f(a)"), function("\x80"), function(strings.Repeat("f", 17)),
		variable("a"), variable("xy"), variable("X"), variable("?A"), variable("?x"), variable("?"), variable("?next"), variable("??t"), variable("x "), variable("x" + strings.Repeat("0", 16)), variable("?" + strings.Repeat("t", 16)),
		{Var: true, Name: "x", Args: []api.Term{a}}, {Var: true, Name: "?t", Args: []api.Term{a}}, {Var: true, Name: "a", Args: []api.Term{a}},
		function("f", a, a, a, a, a), function("f", a, a, a, a, a, a),
	} {
		for _, v := range []api.Term{u, function("f", u), function("f", a, u), function("f", u, a), function("f", a, function("g", a, a, a, u)), tower(1000, u)} {
			bad(t, "Term", format.Term, v)
		}
	}
}

// P6.1: terms may have any size.
func TestLargeTerms(t *testing.T) {
	for _, n := range []int{api.MaxDepth - 1, api.MaxDepth, api.MaxNodes, 60000} {
		want := strings.Repeat("f(", n) + "?t" + strings.Repeat(")", n)
		check(t, "Term", format.Term, tower(n, variable("?t")), want)
	}
	bad(t, "Term", format.Term, tower(60000, variable("?A")))
	u, text := function("a"), "a"
	for range 8 {
		u, text = function("g", u, u, u, u), "g("+text+", "+text+", "+text+", "+text+")"
	}
	check(t, "Term", format.Term, u, text)
}

// P6.1: formulas that are far beyond the limits are rejected, too.
func TestHuge(t *testing.T) {
	f := atom("P")
	for range 60000 {
		f = not(f)
	}
	rejects(t, f)
	rejects(t, api.Form{Op: api.OpAnd, Sub: make([]api.Form, 100000)})
	rejects(t, atom("P", make([]api.Term, 100000)...))
	if !syntax.Schema(big(api.MaxNodes)) {
		t.Error("big is not flat enough")
	}
}

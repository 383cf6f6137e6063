package parse_test

import (
	"strings"
	"testing"

	"lyceum/api"
	"lyceum/parse"
)

// inBrackets is a text within so many brackets.
func inBrackets(n int, s string) string {
	return strings.Repeat("(", n) + s + strings.Repeat(")", n)
}

// P5.1: the nests of brackets alone, of formulas and of terms.
func TestNestsOfBrackets(t *testing.T) {
	for _, n := range []int{0, 1, 39, 119, 120} {
		means(t, inBrackets(n, "P"), "P")
		means(t, inBrackets(n, "P & Q | R"), "or{and{P Q} R}")
		schema(t, inBrackets(n, "?A[?t/x]"), "inst:?A[$x $?t]")
		means(t, inBrackets(n, "P")+" & "+inBrackets(n, "Q"), "and{P Q}")
		forms(t, inBrackets(n, "P")+", "+inBrackets(n, "Q"), "P Q")
	}
	for _, n := range []int{121, 122, 200, 8189} {
		wrong(t, inBrackets(n, "P"), 121, parse.ErrDeep)
		wrong(t, "Q & "+inBrackets(n, "P"), 125, parse.ErrDeep)
		noForms(t, "Q, "+inBrackets(n, "P"), 124, parse.ErrDeep)
	}
	means(t, inBrackets(119, "P(x, a)"), "P[$x a]")
	means(t, inBrackets(118, "P(f(x), a)"), "P[f[$x] a]")
	wrong(t, inBrackets(120, "P(x, a)"), 122, parse.ErrDeep)
	wrong(t, inBrackets(119, "P(a, f(x))"), 126, parse.ErrDeep)
	wrong(t, inBrackets(120, "P()"), 122, parse.ErrDeep)
	wrong(t, inBrackets(119, "P()"), 121, parse.ErrSyntax)
}

// P5.1: signs and words ahead of a unary are nests, as far as it reaches.
func TestNestsOfUnaries(t *testing.T) {
	for _, ahead := range []string{"~", "[]", "<>", "next ", "always ", "all x ", "some y "} {
		means(t, inBrackets(119, ahead+"P"), unaryName(ahead)+"{P}")
		means(t, inBrackets(119, ahead+"P & "+ahead+"Q"), "and{"+unaryName(ahead)+"{P} "+unaryName(ahead)+"{Q}}")
		means(t, inBrackets(120, "P"), "P")
		wrong(t, inBrackets(120, ahead+"P"), 120+len(ahead), parse.ErrDeep)
		wrong(t, inBrackets(119, ahead+ahead+"P"), 119+2*len(ahead), parse.ErrDeep)
		wrong(t, strings.Repeat(ahead, 120)+"P", 0, api.ErrLong)
		wrong(t, strings.Repeat(ahead, 121)+"P", 121*len(ahead), parse.ErrDeep)
		wrong(t, strings.Repeat(ahead, 1000), 121*len(ahead), parse.ErrDeep)
		wrong(t, strings.Repeat(ahead, 120)+"P &", 120*len(ahead)+3, parse.ErrSyntax)
		wrong(t, strings.Repeat(ahead, 120)+"P & "+strings.Repeat(ahead, 121)+"P", 241*len(ahead)+4, parse.ErrDeep)
	}
}

// unaryName is what show writes for a sign or a word ahead of a unary.
func unaryName(ahead string) string {
	switch ahead {
	case "~":
		return "not"
	case "[]":
		return "box"
	case "<>":
		return "dia"
	}
	word, x, _ := strings.Cut(strings.TrimSpace(ahead), " ")
	if x != "" {
		return word + ":" + x
	}
	return word
}

// P5.1: the signs that are grouped from the right are nests of what stands on their right side; the others are none.
func TestNestsOfBinarySigns(t *testing.T) {
	for sign, name := range map[string]string{" -> ": "imp", " until ": "until"} {
		means(t, inBrackets(119, "P"+sign+"Q"), name+"{P Q}")
		wrong(t, inBrackets(120, "P"+sign+"Q"), 121+len(sign), parse.ErrDeep)
		wrong(t, inBrackets(119, "P"+sign+"Q"+sign+"R"), 121+2*len(sign), parse.ErrDeep)
		wrong(t, inBrackets(119, "P"+sign+"~Q"), 121+len(sign), parse.ErrDeep)
		wrong(t, inBrackets(119, "P"+sign+"Q(a)"), 122+len(sign), parse.ErrDeep)
		wrong(t, strings.Repeat("P"+sign, 120)+"P", 0, api.ErrLong)
		wrong(t, strings.Repeat("P"+sign, 121)+"P", 121*(1+len(sign)), parse.ErrDeep)
		means(t, inBrackets(119, "P"+sign+"Q <-> P"+sign+"Q"), "iff{"+name+"{P Q} "+name+"{P Q}}")
		forms(t, strings.Repeat("P"+sign+"Q, ", 63)+"P"+sign+"Q", strings.Repeat(name+"{P Q} ", 63)+name+"{P Q}")
	}
	for sign, name := range map[string]string{" & ": "and", " | ": "or", " <-> ": "iff"} {
		means(t, inBrackets(120, "P"+sign+"Q"+sign+"R"), name+"{"+name+"{P Q} R}")
		wrong(t, strings.Repeat("P"+sign, 1000)+"P", 0, api.ErrLong)
	}
}

// P5.1: an until has ended at a sign that binds less, a "->" at the sign that binds less than it, a unary at each sign.
func TestNestsThatHaveEnded(t *testing.T) {
	means(t, inBrackets(119, "P until Q -> R"), "imp{until{P Q} R}")
	wrong(t, inBrackets(119, "P until Q -> P until Q"), 119+21, parse.ErrDeep)
	means(t, inBrackets(118, "P until Q -> P until Q"), "imp{until{P Q} until{P Q}}")
	wrong(t, inBrackets(119, "P -> Q until R"), 119+13, parse.ErrDeep)
	means(t, inBrackets(118, "P -> Q until R"), "imp{P until{Q R}}")
	wrong(t, inBrackets(119, "P until Q & ~R"), 119+13, parse.ErrDeep)
	wrong(t, inBrackets(119, "P -> Q | Q(a)"), 119+11, parse.ErrDeep)
	means(t, inBrackets(119, "P -> Q | Q & R"), "imp{P or{Q and{Q R}}}")
	means(t, inBrackets(119, "P -> Q <-> ~R <-> P until Q"), "iff{iff{imp{P Q} not{R}} until{P Q}}")
	means(t, inBrackets(118, "~(P) & ~Q(a)"), "and{not{P} not{Q[a]}}")
	wrong(t, inBrackets(118, "~(P) & ~Q(f(a))"), 118+12, parse.ErrDeep)
	means(t, inBrackets(119, "P(a) & Q(b)"), "and{P[a] Q[b]}")
	means(t, inBrackets(118, "P(f(a), f(b))"), "P[f[a] f[b]]")
}

// P5.1: of a token that cannot stand there and that is nested too deep as well, it is told that it is too deep; so it is of the end. A token that is not where a unary or a term should begin is never too deep.
func TestDeepOrWrong(t *testing.T) {
	for _, s := range []string{"", ")", "&", "x", "f", "all a", ",", "]", "until", "?t", "?A", "false false"} {
		wrong(t, strings.Repeat("(", 121)+s, 121, parse.ErrDeep)
		wrong(t, strings.Repeat("~", 121)+s, 121, parse.ErrDeep)
		wrong(t, strings.Repeat("(", 120)+"P("+s, 122, parse.ErrDeep)
		wrong(t, strings.Repeat("(", 120)+"P -> "+s, 125, parse.ErrDeep)
	}
	for _, s := range []string{"", ")", "&", "f", "?t"} {
		wrong(t, strings.Repeat("(", 120)+s, 120, parse.ErrSyntax)
		wrong(t, strings.Repeat("~", 120)+s, 120, parse.ErrSyntax)
		wrong(t, strings.Repeat("~", 120)+"all "+s, 124, parse.ErrSyntax)
	}
	wrong(t, strings.Repeat("~", 120)+"all x", 125, parse.ErrDeep)
	wrong(t, strings.Repeat("(", 120)+"P", 121, parse.ErrSyntax)
	wrong(t, "P Q "+strings.Repeat("(", 121), 2, parse.ErrSyntax)
	wrong(t, strings.Repeat("(", 121)+"P Q", 121, parse.ErrDeep)
	noSchema(t, strings.Repeat("(", 120)+"?A[f", 123, parse.ErrSyntax)
	noForm(t, strings.Repeat("(", 120)+"?A[f", 120, parse.ErrSyntax)
	noForm(t, "?A & "+strings.Repeat("(", 121), 0, parse.ErrSyntax)
	noSchema(t, "?A & "+strings.Repeat("(", 121), 126, parse.ErrDeep)
}

// functions is a term within so many functions.
func functions(n int, s string) string {
	return strings.Repeat("f(", n) + s + strings.Repeat(")", n)
}

// P5.2: nests of terms, and their depth.
func TestDeepTerms(t *testing.T) {
	term(t, functions(39, "a"), strings.Repeat("f[", 39)+"a"+strings.Repeat("]", 39))
	term(t, functions(39, "x"), strings.Repeat("f[", 39)+"$x"+strings.Repeat("]", 39))
	for _, n := range []int{40, 41, 119, 120} {
		noTerm(t, functions(n, "a"), 0, api.ErrLong)
		noTerm(t, functions(n, "a")+")", 3*n+1, parse.ErrSyntax)
		noTerm(t, functions(n, ""), 2*n, parse.ErrSyntax)
	}
	for _, s := range []string{"a", "x", "", ")", "P", "?t", ","} {
		noTerm(t, functions(121, s), 242, parse.ErrDeep)
		noTerm(t, "g("+functions(39, "a")+", "+functions(120, s), 2+(3*39+1)+2+240, parse.ErrDeep)
	}
	means(t, "P("+functions(38, "a")+")", "P["+strings.Repeat("f[", 38)+"a"+strings.Repeat("]", 39))
	wrong(t, "P("+functions(39, "a")+")", 0, api.ErrLong)
	wrong(t, "~P("+functions(38, "a")+")", 0, api.ErrLong)
}

// P5.1 to P5.3: a depth of 40 is the greatest one.
func TestDepth(t *testing.T) {
	means(t, strings.Repeat("~", 39)+"P", strings.Repeat("not{", 39)+"P"+strings.Repeat("}", 39))
	means(t, strings.Repeat("P & ", 39)+"P", strings.Repeat("and{", 39)+"P"+strings.Repeat(" P}", 39))
	means(t, strings.Repeat("P -> ", 39)+"P", strings.Repeat("imp{P ", 39)+"P"+strings.Repeat("}", 39))
	schema(t, strings.Repeat("~", 39)+"?A", strings.Repeat("not{", 39)+"meta:?A"+strings.Repeat("}", 39))
	schema(t, strings.Repeat("~", 38)+"?A[?t/x]", strings.Repeat("not{", 38)+"inst:?A[$x $?t]"+strings.Repeat("}", 38))
	wrong(t, strings.Repeat("~", 40)+"P", 0, api.ErrLong)
	wrong(t, strings.Repeat("P & ", 40)+"P", 0, api.ErrLong)
	wrong(t, strings.Repeat("P -> ", 40)+"P", 0, api.ErrLong)
	noSchema(t, strings.Repeat("~", 40)+"?A", 0, api.ErrLong)
	noSchema(t, strings.Repeat("~", 39)+"?A[?t/x]", 0, api.ErrLong)
}

// conj is a conjunction of so many formulas, of small depth.
func conj(n int, s string) string {
	if n == 1 {
		return s
	}
	return "(" + conj(n/2, s) + " & " + conj(n-n/2, s) + ")"
}

// P5.1, P5.3: 400 nodes are the most, terms included.
func TestNodes(t *testing.T) {
	for _, c := range []struct {
		s     string
		nodes int
	}{{conj(200, "P"), 399}, {"~" + conj(200, "P"), 400}, {"~~" + conj(200, "P"), 401}, {conj(80, "P(a, f(x))"), 399}, {"~" + conj(80, "P(a, f(x))"), 400}, {"P & " + conj(80, "P(a, f(x))"), 401}, {conj(201, "P"), 401}, {conj(1000, "P"), 1999}} {
		f, at, e := parse.Form(c.s)
		g, place, e2 := parse.Schema(c.s)
		l, place2, e3 := parse.Forms("P, " + c.s)
		want := api.OK
		if c.nodes > 400 {
			want = api.ErrLong
		}
		if e != want || e2 != want || e3 != want || at+place+place2 != 0 || zeroForm(f) != (c.nodes > 400) || zeroForm(g) != (c.nodes > 400) || (len(l) == 0) != (c.nodes > 400) {
			t.Error(c.nodes, e, e2, e3, at, place, place2)
		}
	}
}

// bushy is a term of so many nodes whose depth is small.
func bushy(nodes int) string {
	var args []string
	for rest := nodes - 1; rest > 0; {
		part := min((nodes+2)/4, rest)
		args = append(args, bushy(part))
		rest -= part
	}
	if args == nil {
		return "a"
	}
	return "f(" + strings.Join(args, ", ") + ")"
}

// P5.2: 400 nodes are the most of a term, whose depth is at most 40.
func TestNodesOfTerms(t *testing.T) {
	for nodes := 1; nodes < 500; nodes++ {
		f, at, e := parse.Term(bushy(nodes))
		if at != 0 || nodes <= 400 && (e != api.OK || zeroTerm(f)) || nodes > 400 && (e != api.ErrLong || !zeroTerm(f)) {
			t.Error(nodes, at, e)
		}
	}
	noTerm(t, bushy(2000), 0, api.ErrLong)
	means(t, "P("+bushy(4)+", a)", "P[f[a a a] a]")
	for _, s := range []string{bushy(398), bushy(399)} {
		_, at, e := parse.Form("P(" + s + ")")
		if at != 0 || e != api.OK {
			t.Error(at, e)
		}
	}
	wrong(t, "P("+bushy(400)+")", 0, api.ErrLong)
}

// P5.1 to P5.3: 4 arguments are the most, of predicates and of functions.
func TestArguments(t *testing.T) {
	term(t, "f(a, b, c, d)", "f[a b c d]")
	noTerm(t, "f(a, b, c, d, e)", 0, api.ErrLong)
	noTerm(t, "g(f(a, b, c, d, e))", 0, api.ErrLong)
	means(t, "P(a, b, c, f(a, b, c, d))", "P[a b c f[a b c d]]")
	wrong(t, "P(a, b, c, d, e)", 0, api.ErrLong)
	wrong(t, "P(f(a, b, c, d, e))", 0, api.ErrLong)
	wrong(t, "all x ~(Q | P(x, x, x, x, x))", 0, api.ErrLong)
	wrong(t, "P("+strings.Repeat("a, ", 5000)+"a)", 0, api.ErrLong)
	noSchema(t, "?A & P(?t, a, b, c, d)", 0, api.ErrLong)
	noForms(t, "P, Q(a, b, c, d, e), R", 0, api.ErrLong)
	wrong(t, "P(a, b, c, d, e) Q", 17, parse.ErrSyntax)
	wrong(t, "P(a, b, c, d, e", 15, parse.ErrSyntax)
}

// P5.3: 64 formulas are the most; that there are more is told behind all other errors.
func TestManyFormulas(t *testing.T) {
	for _, n := range []int{2, 63, 64} {
		forms(t, strings.Repeat("P, ", n-1)+"Q", strings.Repeat("P ", n-1)+"Q")
	}
	for _, n := range []int{65, 66, 128, 5000} {
		s := strings.Repeat("P, ", n-1)
		noForms(t, s+"Q", 0, api.ErrMany)
		noForms(t, s, len(s), parse.ErrSyntax)
		noForms(t, s+"Q R", len(s)+2, parse.ErrSyntax)
		noForms(t, s+"?A", len(s), parse.ErrSyntax)
		noForms(t, s+strings.Repeat("~", 121), len(s)+121, parse.ErrDeep)
		noForms(t, s+"Q(a, a, a, a, a)", 0, api.ErrLong)
		noForms(t, "Q(a, a, a, a, a), "+s+"P", 0, api.ErrLong)
		noForms(t, s+strings.Repeat("~", 40)+"Q", 0, api.ErrLong)
	}
}

// P5.1 to P5.3: texts of 16384 bytes are read; longer ones are not looked at.
func TestLongTexts(t *testing.T) {
	const most = 16384
	means(t, strings.Repeat(" ", most-1)+"P", "P")
	term(t, "x"+strings.Repeat(" ", most-1), "$x")
	forms(t, strings.Repeat("\n", most), "")
	for _, s := range []string{"P", " ", "(", ")", "_", "?", "xy"} {
		s += strings.Repeat(" ", most)
		wrong(t, s[:most+1], 0, api.ErrLong)
		noTerm(t, s[:most+1], 0, api.ErrLong)
	}
	for _, s := range []string{"P&", "P|", "P,", "P<->", "(P)&"} {
		s = strings.Repeat(s, most)[:most/4*4-4] + "P"
		if s[1] == ',' {
			noForms(t, s, 0, api.ErrMany)
		} else {
			wrong(t, s, 0, api.ErrLong)
		}
	}
	wrong(t, strings.Repeat("(", most), 121, parse.ErrDeep)
}

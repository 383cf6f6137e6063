package parse_test

import (
	"strings"
	"testing"

	"lyceum/api"
	"lyceum/lex"
	"lyceum/parse"
)

// P5.1: each operator, and the fields that it has.
func TestOperators(t *testing.T) {
	means(t, "P", "P")
	means(t, "Even2", "Even2")
	means(t, "P23456789012345Q", "P23456789012345Q")
	means(t, "P(x)", "P[$x]")
	means(t, "P(x, a)", "P[$x a]")
	means(t, "P(x,f(a , g(x1)),b)", "P[$x f[a g[$x1]] b]")
	means(t, "P(a, b, c, d)", "P[a b c d]")
	means(t, "false", "false")
	means(t, "~P", "not{P}")
	means(t, "[]P", "box{P}")
	means(t, "<>P", "dia{P}")
	means(t, "next P", "next{P}")
	means(t, "always P", "always{P}")
	means(t, "all x P", "all:x{P}")
	means(t, "some z20 P", "some:z20{P}")
	means(t, "P & Q", "and{P Q}")
	means(t, "P | Q", "or{P Q}")
	means(t, "P -> Q", "imp{P Q}")
	means(t, "P <-> Q", "iff{P Q}")
	means(t, "P until Q", "until{P Q}")
	means(t, "(P)", "P")
	means(t, "((false))", "false")
	schema(t, "?A", "meta:?A")
	schema(t, "?A[?t/x]", "inst:?A[$x $?t]")
	schema(t, "?B2 [ ?a1B / u0 ]", "inst:?B2[$u0 $?a1B]")
	schema(t, "P(?t, f(?s, x))", "P[$?t f[$?s $x]]")
}

// P5.1: each pair of binary signs, without brackets: the first one is inside, or the second one.
func TestPairsOfSigns(t *testing.T) {
	for _, c := range []struct{ first, second, want string }{
		{"&", "&", "and{and{P Q} R}"},
		{"&", "|", "or{and{P Q} R}"},
		{"&", "until", "until{and{P Q} R}"},
		{"&", "->", "imp{and{P Q} R}"},
		{"&", "<->", "iff{and{P Q} R}"},
		{"|", "&", "or{P and{Q R}}"},
		{"|", "|", "or{or{P Q} R}"},
		{"|", "until", "until{or{P Q} R}"},
		{"|", "->", "imp{or{P Q} R}"},
		{"|", "<->", "iff{or{P Q} R}"},
		{"until", "&", "until{P and{Q R}}"},
		{"until", "|", "until{P or{Q R}}"},
		{"until", "until", "until{P until{Q R}}"},
		{"until", "->", "imp{until{P Q} R}"},
		{"until", "<->", "iff{until{P Q} R}"},
		{"->", "&", "imp{P and{Q R}}"},
		{"->", "|", "imp{P or{Q R}}"},
		{"->", "until", "imp{P until{Q R}}"},
		{"->", "->", "imp{P imp{Q R}}"},
		{"->", "<->", "iff{imp{P Q} R}"},
		{"<->", "&", "iff{P and{Q R}}"},
		{"<->", "|", "iff{P or{Q R}}"},
		{"<->", "until", "iff{P until{Q R}}"},
		{"<->", "->", "iff{P imp{Q R}}"},
		{"<->", "<->", "iff{iff{P Q} R}"},
	} {
		means(t, "P "+c.first+" Q "+c.second+" R", c.want)
		means(t, "((P) "+c.first+" (Q) "+c.second+" (R))", c.want)
	}
	means(t, "P & (Q & R)", "and{P and{Q R}}")
	means(t, "P | (Q | R)", "or{P or{Q R}}")
	means(t, "P <-> (Q <-> R)", "iff{P iff{Q R}}")
	means(t, "(P -> Q) -> R", "imp{imp{P Q} R}")
	means(t, "(P until Q) until R", "until{until{P Q} R}")
	means(t, "P & Q & R & S", "and{and{and{P Q} R} S}")
	means(t, "P -> Q -> R -> S", "imp{P imp{Q imp{R S}}}")
	means(t, "P -> Q <-> R -> S <-> P", "iff{iff{imp{P Q} imp{R S}} P}")
}

// P5.1: signs and words ahead of a unary reach as far as the unary, which no binary sign is in.
func TestUnaries(t *testing.T) {
	for ahead, name := range map[string]string{"~": "not", "[]": "box", "<>": "dia", "next ": "next", "always ": "always", "all x ": "all:x", "some y1 ": "some:y1"} {
		for sign, binary := range map[string]string{"&": "and", "|": "or", "->": "imp", "<->": "iff", "until": "until"} {
			means(t, ahead+"P "+sign+" Q", binary+"{"+name+"{P} Q}")
			means(t, "P "+sign+" "+ahead+"Q", binary+"{P "+name+"{Q}}")
			means(t, ahead+"(P "+sign+" Q)", name+"{"+binary+"{P Q}}")
		}
		means(t, ahead+"~"+ahead+"false", name+"{not{"+name+"{false}}}")
		wrong(t, ahead, len(ahead), parse.ErrSyntax)
		wrong(t, ahead+")", len(ahead), parse.ErrSyntax)
		wrong(t, "P "+ahead, 2, parse.ErrSyntax)
	}
	means(t, "~[]<>next always all x some y P(x,y)", "not{box{dia{next{always{all:x{some:y{P[$x $y]}}}}}}}")
	means(t, "all x all x P", "all:x{all:x{P}}")
}

// P5.1: the first token that cannot stand there.
func TestWrongTokens(t *testing.T) {
	noForm(t, " \t\n", 3, parse.ErrSyntax)
	noSchema(t, " \t\n", 3, parse.ErrSyntax)
	for _, c := range []struct {
		s  string
		at int
	}{
		{")", 0}, {"& P", 0}, {"P & & Q", 4}, {"P -> ", 5}, {"P until", 7}, {"P <-> -> Q", 6},
		{"x", 0}, {"a", 0}, {"f(a)", 0}, {"P & x", 4}, {"P & f(x)", 4}, {"/", 0}, {"[", 0}, {"]", 0},
		{"P)", 1}, {"(P))", 3}, {"()", 1}, {"(P Q)", 3}, {"(P &)", 4}, {"((P)", 4}, {"(P,Q)", 2}, {"(", 1},
		{"false false", 6}, {"false(a)", 5}, {"P false", 2}, {"P ~Q", 2}, {"P []", 2}, {"P all x Q", 2},
		{"all", 3}, {"all x", 5}, {"all x & P", 6}, {"all X P", 4}, {"all ?t P", 4}, {"all all x P", 4}, {"all (x) P", 4}, {"some false", 5}, {"all x y P", 6}, {"all x, y P", 5}, {"all f P", 4},
		{"P(x", 3}, {"P(x,", 4}, {"P(x,)", 4}, {"P(,x)", 2}, {"P(x y)", 4}, {"P(x(a))", 3}, {"P(P)", 2}, {"P(false)", 2}, {"P((x))", 2}, {"P(~x)", 2}, {"P(f())", 4}, {"P(f(x)", 6}, {"P(f(x),", 7}, {"P(f x)", 4}, {"P(x)(y)", 4}, {"P(x & y)", 4}, {"P(f(Q))", 4}, {"P(all x Q)", 2},
		{"P[?t/x]", 1}, {"next next", 9}, {"until P", 0}, {"P until until", 8},
	} {
		wrong(t, c.s, c.at, parse.ErrSyntax)
		wrong(t, "\n"+c.s, 1+c.at, parse.ErrSyntax)
	}
}

// P5.1: behind a token that cannot stand there, all others are the same.
func TestFirstWrongToken(t *testing.T) {
	for _, behind := range []string{"", " P", " )", " & &", " ?A", " (((", " Q(a, a, a, a, a)", strings.Repeat("~", 200)} {
		wrong(t, "P & Q R"+behind, 6, parse.ErrSyntax)
		wrong(t, "P(x)) "+behind, 4, parse.ErrSyntax)
		noTerm(t, "f(x) a"+behind, 5, parse.ErrSyntax)
	}
}

// P5.1: metavariables of formulas stand where predicates do, those of terms where variables do, in schemas alone.
func TestMetavariables(t *testing.T) {
	schema(t, "~?A & ?B -> all x ?C", "imp{and{not{meta:?A} meta:?B} all:x{meta:?C}}")
	schema(t, "(?A) until next ?A[?t/x]", "until{meta:?A next{inst:?A[$x $?t]}}")
	schema(t, "P(f(?t), ?s) | Q(x, a)", "or{P[f[$?t] $?s] Q[$x a]}")
	schema(t, "all x ?A[?t/x]", "all:x{inst:?A[$x $?t]}")
	schema(t, "P & all x Q(a)", "and{P all:x{Q[a]}}")
	for _, c := range []struct {
		s  string
		at int
	}{
		{"?t", 0}, {"~?t", 1}, {"?A ?B", 3}, {"?A(x)", 2}, {"?A[]", 2}, {"?A[/x]", 3}, {"?A[x/x]", 3}, {"?A[a/x]", 3}, {"?A[?B/x]", 3}, {"?A[?t]", 5}, {"?A[?t x]", 6}, {"?A[?t/]", 6}, {"?A[?t/a]", 6}, {"?A[?t/?s]", 6}, {"?A[?t/x", 7}, {"?A[?t/x][?t/x]", 8}, {"?A[?t/x)", 7}, {"?A[", 3}, {"?A[?t", 5}, {"?A[?t/", 6}, {"?A[?t,x]", 5}, {"?A[f(?t)/x]", 3}, {"P(?A)", 2}, {"P(?t(x))", 4}, {"P(f(?A))", 4}, {"all ?A P", 4}, {"all ?t ?A", 4}, {"?A]", 2}, {"P(?t[?s/x])", 4}, {"(?A)[?t/x]", 4},
	} {
		noSchema(t, c.s, c.at, parse.ErrSyntax)
		noForm(t, c.s, strings.Index(c.s, "?"), parse.ErrSyntax)
		noForms(t, c.s, strings.Index(c.s, "?"), parse.ErrSyntax)
	}
	for _, c := range []struct {
		s  string
		at int
	}{{"?A", 0}, {"P & ?A", 4}, {"P & ?A[?t/x]", 4}, {"P(x, ?t)", 5}, {"P(f(?t))", 4}, {"all x ?A -> P", 6}} {
		noForm(t, c.s, c.at, parse.ErrSyntax)
		noForms(t, c.s, c.at, parse.ErrSyntax)
	}
	wrong(t, "P Q ?A", 2, parse.ErrSyntax)
	noForm(t, "?A P", 0, parse.ErrSyntax)
	noSchema(t, "?A P", 3, parse.ErrSyntax)
	noForms(t, "P, ?A", 3, parse.ErrSyntax)
	noForms(t, "P, Q(?t)", 5, parse.ErrSyntax)
}

// P5.2: terms, and what is none.
func TestTerms(t *testing.T) {
	term(t, "x", "$x")
	term(t, " z9\n", "$z9")
	term(t, "a", "a")
	term(t, "f(x)", "f[$x]")
	term(t, "f ( x , a,g(b,x) )", "f[$x a g[b $x]]")
	term(t, "f(a, b, c, d)", "f[a b c d]")
	term(t, "a23456789012345B", "a23456789012345B")
	for _, c := range []struct {
		s  string
		at int
	}{
		{"", 0}, {" ", 1}, {"P", 0}, {"false", 0}, {"all", 0}, {"~x", 0}, {"(x)", 0}, {"x y", 2}, {"x(a)", 1}, {"f()", 2}, {"f(", 2}, {"f(x", 3}, {"f(x,", 4}, {"f(x,)", 4}, {"f(x))", 4}, {"f(P)", 2}, {"f(x)(y)", 4}, {"x, y", 1}, {"f(x & y)", 4}, {"?t", 0}, {"?A", 0}, {"f(?t)", 2}, {"f(x, ?A)", 5}, {"f((x))", 2}, {"f x", 2}, {",", 0}, {"f(until)", 2},
	} {
		noTerm(t, c.s, c.at, parse.ErrSyntax)
	}
}

// P5.3: lists of formulas, and what is none.
func TestLists(t *testing.T) {
	forms(t, "", "")
	forms(t, " \t\r\n", "")
	forms(t, "P", "P")
	forms(t, "P, Q", "P Q")
	forms(t, "P,P ,\tP", "P P P")
	forms(t, "P(x, f(a, b)), Q & R, all x P(x, x) -> Q", "P[$x f[a b]] and{Q R} imp{all:x{P[$x $x]} Q}")
	forms(t, "P -> Q, Q until R, R <-> P, (P & Q), false", "imp{P Q} until{Q R} iff{R P} and{P Q} false")
	for _, c := range []struct {
		s  string
		at int
	}{
		{",", 0}, {" ,", 1}, {"P,", 2}, {"P, ", 3}, {",P", 0}, {"P,,Q", 2}, {"P, Q,", 5}, {"(P, Q)", 2}, {"P, (Q, R)", 5}, {"P Q", 2}, {"P, x", 3}, {"P, Q R", 5}, {"P &, Q", 3}, {"~, P", 1}, {"P(x),)", 5}, {"P, [Q]", 3}, {"P(x,, y)", 4},
	} {
		noForms(t, c.s, c.at, parse.ErrSyntax)
	}
	wrong(t, "(P, Q)", 2, parse.ErrSyntax)
	noForm(t, "P, Q", 1, parse.ErrSyntax)
	noSchema(t, "P, Q", 1, parse.ErrSyntax)
}

// P5.1 to P5.3: the errors of lex come ahead of all others, with their places.
func TestErrorsOfLex(t *testing.T) {
	for _, ahead := range []string{"", "P ", "P Q ", ") ", "?A ", "P(a, a, a, a, a) ", strings.Repeat("(", 130), strings.Repeat("P,", 70)} {
		for _, c := range []struct {
			s string
			e api.Errno
		}{{"_", lex.ErrChar}, {"7", lex.ErrChar}, {"<", lex.ErrChar}, {"\xff", lex.ErrChar}, {"xy", lex.ErrName}, {"?", lex.ErrName}, {"?all", lex.ErrName}, {"P23456789012345QR", lex.ErrName}} {
			for _, behind := range []string{"", " P", " )", " _", " xy"} {
				wrong(t, ahead+c.s+behind, len(ahead), c.e)
				noTerm(t, ahead+c.s+behind, len(ahead), c.e)
			}
		}
	}
}

package parse_test

import (
	"go/parser"
	"go/token"
	"path/filepath"
	"strings"
	"testing"

	"lyceum/api"
	"lyceum/parse"
)

// opName is the name of an operator in what show writes.
func opName(op uint8) string {
	return [...]string{"?", "atom", "false", "not", "and", "or", "imp", "iff", "all", "some", "box", "dia", "next", "always", "until", "meta", "inst"}[op]
}

// show writes all fields of a formula: imp{P[$x f[a]] all:y{Q}} is an OpImp with two Sub, the first of which has two Args ($ stands ahead of the Name of a Var).
func show(f api.Form) string {
	s := opName(f.Op) + ":" + f.Name
	s = strings.TrimSuffix(strings.TrimPrefix(s, "atom:"), ":")
	if len(f.Args) > 0 {
		s += showTerms(f.Args)
	}
	if len(f.Sub) > 0 {
		s += "{" + showForms(f.Sub) + "}"
	}
	return s
}

func showForms(l []api.Form) string {
	var texts []string
	for _, f := range l {
		texts = append(texts, show(f))
	}
	return strings.Join(texts, " ")
}

func showTerms(l []api.Term) string {
	var texts []string
	for _, t := range l {
		texts = append(texts, showTerm(t))
	}
	return "[" + strings.Join(texts, " ") + "]"
}

func showTerm(t api.Term) string {
	s := t.Name
	if t.Var {
		s = "$" + s
	}
	if len(t.Args) > 0 {
		s += showTerms(t.Args)
	}
	return s
}

// zeroForm reports whether a formula is zero.
func zeroForm(f api.Form) bool {
	return f.Op == 0 && f.Name == "" && len(f.Args) == 0 && len(f.Sub) == 0
}

// zeroTerm reports whether a term is zero.
func zeroTerm(t api.Term) bool { return !t.Var && t.Name == "" && len(t.Args) == 0 }

// means checks what a text without metavariables means, as a formula, as a schema, and as a list of one formula.
func means(t *testing.T, s, want string) {
	t.Helper()
	if f, at, e := parse.Form(s); e != api.OK || at != 0 || show(f) != want {
		t.Errorf("Form(%.80q) = %.80s, %d, %d; want %.80s", s, show(f), at, e, want)
	}
	if l, at, e := parse.Forms(s); e != api.OK || at != 0 || len(l) != 1 || show(l[0]) != want {
		t.Errorf("Forms(%.80q) = %.80s, %d, %d; want %.80s", s, showForms(l), at, e, want)
	}
	schema(t, s, want)
}

// schema checks what a text means as a schema.
func schema(t *testing.T, s, want string) {
	t.Helper()
	if f, at, e := parse.Schema(s); e != api.OK || at != 0 || show(f) != want {
		t.Errorf("Schema(%.80q) = %.80s, %d, %d; want %.80s", s, show(f), at, e, want)
	}
}

// term checks what a text means as a term.
func term(t *testing.T, s, want string) {
	t.Helper()
	if f, at, e := parse.Term(s); e != api.OK || at != 0 || showTerm(f) != want {
		t.Errorf("Term(%.80q) = %.80s, %d, %d; want %.80s", s, showTerm(f), at, e, want)
	}
}

// forms checks what a text means as a list of formulas.
func forms(t *testing.T, s, want string) {
	t.Helper()
	if l, at, e := parse.Forms(s); e != api.OK || at != 0 || showForms(l) != want {
		t.Errorf("Forms(%.80q) = %.80s, %d, %d; want %.80s", s, showForms(l), at, e, want)
	}
}

// noForm checks that a text is no formula.
func noForm(t *testing.T, s string, place int, want api.Errno) {
	t.Helper()
	if f, at, e := parse.Form(s); e != want || at != place || !zeroForm(f) {
		t.Errorf("Form(%.80q) = %.80s, %d, %d; want %d, %d", s, show(f), at, e, place, want)
	}
}

// noSchema checks that a text is no schema.
func noSchema(t *testing.T, s string, place int, want api.Errno) {
	t.Helper()
	if f, at, e := parse.Schema(s); e != want || at != place || !zeroForm(f) {
		t.Errorf("Schema(%.80q) = %.80s, %d, %d; want %d, %d", s, show(f), at, e, place, want)
	}
}

// noTerm checks that a text is no term.
func noTerm(t *testing.T, s string, place int, want api.Errno) {
	t.Helper()
	if f, at, e := parse.Term(s); e != want || at != place || !zeroTerm(f) {
		t.Errorf("Term(%.80q) = %.80s, %d, %d; want %d, %d", s, showTerm(f), at, e, place, want)
	}
}

// noForms checks that a text is no list of formulas.
func noForms(t *testing.T, s string, place int, want api.Errno) {
	t.Helper()
	if l, at, e := parse.Forms(s); e != want || at != place || len(l) != 0 {
		t.Errorf("Forms(%.80q) = %.80s, %d, %d; want %d, %d", s, showForms(l), at, e, place, want)
	}
}

// wrong checks that a text is neither a formula nor a schema nor a list of formulas, with the same error.
func wrong(t *testing.T, s string, place int, want api.Errno) {
	t.Helper()
	noForm(t, s, place, want)
	noSchema(t, s, place, want)
	noForms(t, s, place, want)
}

// The chapter tells the numbers of the limits and of the errors.
func TestConstants(t *testing.T) {
	if parse.MaxNest != 120 || parse.MaxForms != 64 || parse.ErrSyntax != 50 || parse.ErrDeep != 51 {
		t.Error(parse.MaxNest, parse.MaxForms, parse.ErrSyntax, parse.ErrDeep)
	}
}

// P5.1, P5.2: the examples of the chapter.
func TestExamples(t *testing.T) {
	means(t, "P & Q & R | S -> T -> U1", "imp{or{and{and{P Q} R} S} imp{T U1}}")
	means(t, "all x P(x) & Q", "and{all:x{P[$x]} Q}")
	means(t, "~[]P until Q until R", "until{not{box{P}} until{Q R}}")
	means(t, "P -> Q <-> R <-> S", "iff{iff{imp{P Q} R} S}")
	schema(t, "?A[?t/x] & some x ?A", "and{inst:?A[$x $?t] some:x{meta:?A}}")
	wrong(t, "P &", 3, parse.ErrSyntax)
	wrong(t, "P Q", 2, parse.ErrSyntax)
	wrong(t, "all a P", 4, parse.ErrSyntax)
	wrong(t, "P(", 2, parse.ErrSyntax)
	wrong(t, "P()", 2, parse.ErrSyntax)
	wrong(t, "(P", 2, parse.ErrSyntax)
	noForm(t, "?A", 0, parse.ErrSyntax)
	wrong(t, "P(a, a, a, a, a)", 0, api.ErrLong)
	noForm(t, "", 0, parse.ErrSyntax)
	noSchema(t, "", 0, parse.ErrSyntax)
}

// R3: results share no memory with other results, nor do the slices of one.
func TestMemory(t *testing.T) {
	const s = "P(x, f(a)) & ?A[?t/x] & ?A[?t/x] | P(x, f(a)) & P(x, f(a))"
	first, _, _ := parse.Schema(s)
	second, _, _ := parse.Schema(s)
	spoil(first.Sub[0].Sub[0])
	spoil(first.Sub[1].Sub[0])
	const half = "or{and{and{? ?} inst:?A[$x $?t]} and{P[ ] P[$x f[a]]}}"
	if got := show(first); got != half {
		t.Error(got)
	}
	spoil(first)
	const whole = "or{and{and{P[$x f[a]] inst:?A[$x $?t]} inst:?A[$x $?t]} and{P[$x f[a]] P[$x f[a]]}}"
	if got := show(second); got != whole {
		t.Error(got)
	}
	schema(t, s, whole)
}

// R3: the formulas of a list, and the terms of a term, share none either.
func TestMemoryOfLists(t *testing.T) {
	l, _, _ := parse.Forms("P(f(a), f(a)), P(f(a), f(a)), Q")
	spoil(l[0])
	if got := showForms(l); got != "P[ ] P[f[a] f[a]] Q" {
		t.Error(got)
	}
	a, _, _ := parse.Term("f(g(a), g(a))")
	clear(a.Args[0].Args[:cap(a.Args[0].Args)])
	if got := showTerm(a); got != "f[g[] g[a]]" {
		t.Error(got)
	}
}

// spoil overwrites all that is in the slices of a formula, and their spare capacity.
func spoil(f api.Form) {
	for _, p := range f.Sub {
		spoil(p)
	}
	for _, a := range f.Args {
		clear(a.Args[:cap(a.Args)])
	}
	clear(f.Args[:cap(f.Args)])
	clear(f.Sub[:cap(f.Sub)])
}

// The chapter lets the package use no layers but syntax and lex.
func TestImports(t *testing.T) {
	files, err := filepath.Glob("*.go")
	if err != nil || len(files) == 0 {
		t.Fatal(files, err)
	}
	for _, file := range files {
		if strings.HasSuffix(file, "_test.go") {
			continue
		}
		f, err := parser.ParseFile(token.NewFileSet(), file, nil, parser.ImportsOnly)
		if err != nil {
			t.Fatal(err)
		}
		for _, i := range f.Imports {
			switch path := i.Path.Value; path {
			case `"lyceum/api"`, `"lyceum/syntax"`, `"lyceum/lex"`:
			default:
				if strings.HasPrefix(path, `"lyceum`) {
					t.Error(file, "imports", path)
				}
			}
		}
	}
}

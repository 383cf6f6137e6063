package match_test

import (
	"go/parser"
	"go/token"
	"path/filepath"
	"regexp"
	"slices"
	"strings"
	"testing"

	"lyceum/api"
	"lyceum/format"
	"lyceum/match"
	"lyceum/parse"
)

// The following make terms and formulas.

func variable(name string) api.Term { return api.Term{Var: true, Name: name} }

func function(name string, args ...api.Term) api.Term { return api.Term{Name: name, Args: args} }

func atom(name string, args ...api.Term) api.Form {
	return api.Form{Op: api.OpAtom, Name: name, Args: args}
}

func not(f api.Form) api.Form { return api.Form{Op: api.OpNot, Sub: []api.Form{f}} }

func and(f, g api.Form) api.Form { return api.Form{Op: api.OpAnd, Sub: []api.Form{f, g}} }

func all(x string, f api.Form) api.Form {
	return api.Form{Op: api.OpAll, Name: x, Sub: []api.Form{f}}
}

func meta(name string) api.Form { return api.Form{Op: api.OpMeta, Name: name} }

func inst(name, t, x string) api.Form {
	return api.Form{Op: api.OpInst, Name: name, Args: []api.Term{variable(x), variable(t)}}
}

// nots is a formula within so many signs of negation.
func nots(n int, f api.Form) api.Form {
	for range n {
		f = not(f)
	}
	return f
}

// wraps is a term within so many functions.
func wraps(n int, t api.Term) api.Term {
	for range n {
		t = function("f", t)
	}
	return t
}

// No text has placeholders, so tests write and read variables instead: ?x12 is v9312, as x is the letter 3 of u to z.
var (
	marks = regexp.MustCompile(`\?([u-z])([0-9]*)\b`)
	codes = regexp.MustCompile(`\bv9([0-5])([0-9]*)\b`)
)

func coded(s string) string {
	return marks.ReplaceAllStringFunc(s, func(m string) string { return "v9" + string('0'+m[1]-'u') + m[2:] })
}

func decoded(s string) string {
	return codes.ReplaceAllStringFunc(s, func(m string) string { return "?" + string('u'+m[2]-'0') + m[3:] })
}

// renamed is a formula whose variables have other names.
func renamed(f api.Form, name func(s string) string) api.Form {
	r := api.Form{Op: f.Op, Name: f.Name}
	if f.Op == api.OpAll || f.Op == api.OpSome {
		r.Name = name(f.Name)
	}
	for _, t := range f.Args {
		r.Args = append(r.Args, renamedTerm(t, name))
	}
	for _, p := range f.Sub {
		r.Sub = append(r.Sub, renamed(p, name))
	}
	return r
}

func renamedTerm(t api.Term, name func(s string) string) api.Term {
	r := api.Term{Var: t.Var, Name: t.Name}
	if t.Var {
		r.Name = name(t.Name)
	}
	for _, a := range t.Args {
		r.Args = append(r.Args, renamedTerm(a, name))
	}
	return r
}

// form reads a schema, or a formula with placeholders.
func form(s string) api.Form {
	f, _, e := parse.Schema(coded(s))
	if e != api.OK {
		panic(s)
	}
	return renamed(f, decoded)
}

// term reads a term, with metavariables or placeholders.
func term(s string) api.Term { return form("P(" + s + ")").Args[0] }

// text writes a schema, or a formula with placeholders.
func text(f api.Form) string {
	if f.Op == 0 && f.Name == "" && len(f.Args)+len(f.Sub) == 0 {
		return ""
	}
	s, e := format.Form(renamed(f, coded))
	if e != api.OK {
		return "not right"
	}
	return decoded(s)
}

func termText(t api.Term) string {
	s, e := format.Term(renamedTerm(t, coded))
	if e != api.OK && (t.Var || t.Name != "" || len(t.Args) > 0) {
		return "not right"
	}
	return decoded(s)
}

// list is the texts between semicolons.
func list(s string) []string {
	if s == "" {
		return nil
	}
	return strings.Split(s, "; ")
}

// binding reads a binding: ?A: P(?x); ?t: f(a), for example.
func binding(s string) match.Binding {
	var b match.Binding
	for _, w := range list(s) {
		name, rest, _ := strings.Cut(w, ": ")
		if name[1] >= 'a' {
			b.Terms = append(b.Terms, match.TermBind{Name: name, Term: term(rest)})
		} else {
			b.Forms = append(b.Forms, match.FormBind{Name: name, Form: form(rest)})
		}
	}
	return b
}

// bindingText writes a binding.
func bindingText(b match.Binding) string {
	var l []string
	for _, f := range b.Forms {
		l = append(l, f.Name+": "+text(f.Form))
	}
	for _, t := range b.Terms {
		l = append(l, t.Name+": "+termText(t.Term))
	}
	return strings.Join(l, "; ")
}

// pairs reads schemas and formulas.
func pairs(schemas, forms string) []match.Pair {
	var l []match.Pair
	fs := list(forms)
	for i, s := range list(schemas) {
		l = append(l, match.Pair{Schema: form(s), Form: form(fs[i])})
	}
	return l
}

// matches checks what Matches returns, and Match, if there is one pair alone.
func matches(t *testing.T, schemas, forms, b, want string, at int, e api.Errno) {
	t.Helper()
	l := pairs(schemas, forms)
	got, i, d := match.Matches(l, binding(b))
	if bindingText(got) != want || i != at || d != e {
		t.Errorf("%s with %s from %q: %q, %d, %d; want %q, %d, %d", schemas, forms, b, bindingText(got), i, d, want, at, e)
	}
	if len(l) != 1 {
		return
	}
	if got, d := match.Match(l[0].Schema, l[0].Form, binding(b)); bindingText(got) != want || d != e {
		t.Errorf("%s with %s from %q, alone: %q, %d; want %q, %d", schemas, forms, b, bindingText(got), d, want, e)
	}
}

// fills checks what Fill returns, and that the schema matches it.
func fills(t *testing.T, schema, b, want string, e api.Errno) {
	t.Helper()
	got, d := match.Fill(form(schema), binding(b))
	if text(got) != want || d != e {
		t.Errorf("%s with %s: %s, %d; want %s, %d", schema, b, text(got), d, want, e)
	}
	if d != api.OK {
		return
	}
	if r, d := match.Match(form(schema), got, binding(b)); d != api.OK || bindingText(r) != bindingText(binding(b)) {
		t.Errorf("%s does not match %s with %s: %s, %d", schema, text(got), b, bindingText(r), d)
	}
}

// The tests' own reader and writer: placeholders stay what they are.
func TestTexts(t *testing.T) {
	for _, s := range []string{"P(?x, x)", "all x (P(?x12) -> ?A[?t/x] & Q(?u, ?s1))", "P(?z, f(?y0))"} {
		if got := text(form(s)); got != s {
			t.Error(got, s)
		}
	}
	f := form("P(?x10, ?t)")
	if f.Args[0].Name != "?x10" || f.Args[1].Name != "?t" || !f.Args[0].Var {
		t.Error(f)
	}
	if s := "?A: R(?x, z); ?B: Q; ?t: f(?y)"; bindingText(binding(s)) != s {
		t.Error(bindingText(binding(s)))
	}
}

// P7.2 and P7.3: the examples of the chapter.
func TestExamples(t *testing.T) {
	matches(t, "?A -> ?B", "P & Q -> R", "", "?A: P & Q; ?B: R", 0, api.OK)
	matches(t, "?A -> ?A", "(all x P(x)) -> all y P(y)", "", "?A: all x P(x)", 0, api.OK)
	matches(t, "all x ?A", "all y R(y, z)", "", "?A: R(?x, z)", 0, api.OK)
	matches(t, "all x (?A | ?B); ?A", "all y (Q | P(y)); Q", "", "?A: Q; ?B: P(?x)", 0, api.OK)
	matches(t, "all x (?A | ?B); ?A", "all y (P(y) | P(y)); P(y)", "", "", 1, match.ErrMatch)
	matches(t, "all x ?A; ?A[?t/x]", "all y some z R(y, z); some z R(f(a), z)", "", "?A: some z R(?x, z); ?t: f(a)", 0, api.OK)
	matches(t, "all x ?A; ?A[?t/x]", "all y some z R(y, z); some z R(z, z)", "", "", 1, match.ErrMatch)
	matches(t, "?A[?t/x]", "P(a)", "", "", 0, match.ErrLater)
	matches(t, "all x ?A; ?A[?t/x]", "all y Q; Q", "", "?A: Q", 0, api.OK)
	fills(t, "some x ?A", "?A: P(?x, x)", "some x1 P(x1, x)", api.OK)
	fills(t, "?A", "?A: P(?x, x)", "", match.ErrScope)
	fills(t, "?A[?t/x]", "?A: P(?x, x); ?t: x", "P(x, x)", api.OK)
}

// The numbers of the errors.
func TestErrors(t *testing.T) {
	if match.ErrMatch != 70 || match.ErrLater != 71 || match.ErrScope != 72 {
		t.Error(match.ErrMatch, match.ErrLater, match.ErrScope)
	}
}

// The chapter lets the package use no layers but syntax and subst.
func TestImports(t *testing.T) {
	files, err := filepath.Glob("*.go")
	if err != nil || len(files) == 0 {
		t.Fatal(files, err)
	}
	for _, file := range files {
		if strings.HasSuffix(file, "_test.go") {
			continue
		}
		f, err := parser.ParseFile(token.NewFileSet(), file, nil, parser.ImportsOnly)
		if err != nil {
			t.Fatal(err)
		}
		for _, i := range f.Imports {
			path := strings.Trim(i.Path.Value, `"`)
			if strings.HasPrefix(path, "lyceum") && !slices.Contains([]string{"lyceum/api", "lyceum/syntax", "lyceum/subst"}, path) {
				t.Error(file, "imports", path)
			}
		}
	}
}

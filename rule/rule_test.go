package rule_test

import (
	"go/parser"
	"go/token"
	"path/filepath"
	"regexp"
	"slices"
	"strings"
	"testing"

	"lyceum/api"
	"lyceum/format"
	"lyceum/match"
	"lyceum/parse"
	"lyceum/rule"
	"lyceum/syntax"
)

// The following make terms and formulas.

func variable(name string) api.Term { return api.Term{Var: true, Name: name} }

func function(name string, args ...api.Term) api.Term { return api.Term{Name: name, Args: args} }

func atom(name string, args ...api.Term) api.Form {
	return api.Form{Op: api.OpAtom, Name: name, Args: args}
}

func meta(name string) api.Form { return api.Form{Op: api.OpMeta, Name: name} }

func inst(name, t, x string) api.Form {
	return api.Form{Op: api.OpInst, Name: name, Args: []api.Term{variable(x), variable(t)}}
}

func not(f api.Form) api.Form { return api.Form{Op: api.OpNot, Sub: []api.Form{f}} }

func and(f, g api.Form) api.Form { return api.Form{Op: api.OpAnd, Sub: []api.Form{f, g}} }

// nots is a formula within so many signs of negation.
func nots(n int, f api.Form) api.Form {
	for range n {
		f = not(f)
	}
	return f
}

// wide is a formula of so many atoms, whose depth is small: a node less than twice as many.
func wide(atoms int, f api.Form) api.Form {
	if atoms == 1 {
		return f
	}
	return and(wide(atoms/2, f), wide(atoms-atoms/2, f))
}

// No text has placeholders, so tests read variables instead: ?x12 is v9312, as x is the letter 3 of u to z.
var (
	marks = regexp.MustCompile(`\?([u-z])([0-9]*)\b`)
	codes = regexp.MustCompile(`^v9([0-5])([0-9]*)$`)
)

func coded(s string) string {
	return marks.ReplaceAllStringFunc(s, func(m string) string { return "v9" + string('0'+m[1]-'u') + m[2:] })
}

func decoded(s string) string {
	return codes.ReplaceAllStringFunc(s, func(m string) string { return "?" + string('u'+m[2]-'0') + m[3:] })
}

func decodedTerms(l []api.Term) []api.Term {
	var r []api.Term
	for _, t := range l {
		u := api.Term{Var: t.Var, Name: t.Name, Args: decodedTerms(t.Args)}
		if t.Var {
			u.Name = decoded(t.Name)
		}
		r = append(r, u)
	}
	return r
}

func decodedForm(f api.Form) api.Form {
	r := api.Form{Op: f.Op, Name: f.Name, Args: decodedTerms(f.Args)}
	for _, p := range f.Sub {
		r.Sub = append(r.Sub, decodedForm(p))
	}
	return r
}

// form reads a schema, or a formula with placeholders.
func form(s string) api.Form {
	f, _, e := parse.Schema(coded(s))
	if e != api.OK {
		panic("no schema: " + s)
	}
	return decodedForm(f)
}

// text writes a schema.
func text(f api.Form) string {
	s, e := format.Form(f)
	if e != api.OK {
		return "not right"
	}
	return s
}

// list is the texts with these separators between them.
func list(s, separator string) []string {
	if s == "" {
		return nil
	}
	return strings.Split(s, separator)
}

// forms reads formulas with semicolons between them.
func forms(s string) []api.Form {
	var l []api.Form
	for _, w := range list(s, "; ") {
		l = append(l, form(w))
	}
	return l
}

// hyps takes away the braces at the beginning of a text, and returns what is in them and the rest.
func hyps(s string) ([]string, string) {
	if !strings.HasPrefix(s, "{") {
		return nil, s
	}
	in, rest, _ := strings.Cut(s[1:], "} ")
	return list(in, "; "), rest
}

// prem reads a premise of a rule: closed fresh ?a {?A; ?B} ?C, for example.
func prem(s string) api.Prem {
	var p api.Prem
	s, p.Closed = strings.CutPrefix(s, "closed ")
	if rest, fresh := strings.CutPrefix(s, "fresh "); fresh {
		p.Fresh, s, _ = strings.Cut(rest, " ")
	}
	l, rest := hyps(s)
	for _, h := range l {
		p.Hyps = append(p.Hyps, form(h))
	}
	p.Concl = form(rest)
	return p
}

// premText writes a premise as it is read.
func premText(p api.Prem) string {
	s := ""
	if p.Closed {
		s += "closed "
	}
	if p.Fresh != "" {
		s += "fresh " + p.Fresh + " "
	}
	var l []string
	for _, h := range p.Hyps {
		l = append(l, text(h))
	}
	if len(l) > 0 {
		s += "{" + strings.Join(l, "; ") + "} "
	}
	return s + text(p.Concl)
}

func premsText(l []api.Prem) string {
	var s []string
	for _, p := range l {
		s = append(s, premText(p))
	}
	return strings.Join(s, " / ")
}

// ruleOf reads a rule: its premises, with slashes between them, and its conclusion behind an arrow: ?A / ?B => ?A & ?B, for example.
func ruleOf(s string) api.Rule {
	prems, concl, found := strings.Cut(s, "=> ")
	if !found {
		panic("no rule: " + s)
	}
	r := api.Rule{Name: "r", Concl: form(concl)}
	for _, w := range list(strings.TrimSuffix(prems, " "), " / ") {
		r.Prems = append(r.Prems, prem(w))
	}
	return r
}

// got reads a premise of a step: {P; -} Q with R; S, for example, where - is an assumption that is not there, and R and S are others.
func got(s string) rule.Got {
	s, rest, _ := strings.Cut(s, " with ")
	g := rule.Got{Rest: forms(rest)}
	l, concl := hyps(s)
	for _, h := range l {
		if h == "-" {
			g.Hyps = append(g.Hyps, rule.Hyp{})
		} else {
			g.Hyps = append(g.Hyps, rule.Hyp{Some: true, Form: form(h)})
		}
	}
	g.Concl = form(concl)
	return g
}

// stepOf reads a step as ruleOf does a rule: its conclusion and its premises.
func stepOf(s string) (api.Form, []rule.Got) {
	prems, concl, found := strings.Cut(s, "=> ")
	if !found {
		panic("no step: " + s)
	}
	var l []rule.Got
	for _, w := range list(strings.TrimSuffix(prems, " "), " / ") {
		l = append(l, got(w))
	}
	return form(concl), l
}

// binding reads a binding: ?A: P(?x); ?t: f(a), for example.
func binding(s string) match.Binding {
	var b match.Binding
	for _, w := range list(s, "; ") {
		name, rest, _ := strings.Cut(w, ": ")
		if name[1] >= 'a' {
			b.Terms = append(b.Terms, match.TermBind{Name: name, Term: form("P(" + rest + ")").Args[0]})
		} else {
			b.Forms = append(b.Forms, match.FormBind{Name: name, Form: form(rest)})
		}
	}
	return b
}

// same reports whether two bindings are equal.
func same(a, b match.Binding) bool {
	return slices.EqualFunc(a.Forms, b.Forms, func(x, y match.FormBind) bool { return x.Name == y.Name && syntax.Same(x.Form, y.Form) }) &&
		slices.EqualFunc(a.Terms, b.Terms, func(x, y match.TermBind) bool { return x.Name == y.Name && syntax.SameTerm(x.Term, y.Term) })
}

// accepts checks that a step is one by a rule, and what it matches with.
func accepts(t *testing.T, r, step, want string) {
	t.Helper()
	concl, l := stepOf(step)
	if b, f, e := rule.Apply(ruleOf(r), concl, l); !same(b, binding(want)) || f != (rule.Fault{}) || e != api.OK {
		t.Errorf("%s by %s: %v, %v, %d; want %s", step, r, b, f, e, want)
	}
}

// rejects checks that a step is none by a rule, and what is wrong with it.
func rejects(t *testing.T, r, step string, kind uint8, prem, index int) {
	t.Helper()
	concl, l := stepOf(step)
	if b, f, e := rule.Apply(ruleOf(r), concl, l); !same(b, match.Binding{}) || f != (rule.Fault{Kind: kind, Prem: prem, Index: index}) || e != rule.ErrStep {
		t.Errorf("%s by %s: %v, %v, %d; want %d, %d, %d", step, r, b, f, e, kind, prem, index)
	}
}

// backs checks what Back returns, where known is what is known, and taken has names with spaces between them.
func backs(t *testing.T, r, concl, known, taken, prems, want string, e api.Errno) {
	t.Helper()
	l, b, d := rule.Back(ruleOf(r), form(concl), binding(known), list(taken, " "))
	if premsText(l) != prems || !same(b, binding(want)) || d != e {
		t.Errorf("%s by %s with %q, not %q: %q, %v, %d; want %q, %s, %d", concl, r, known, taken, premsText(l), b, d, prems, want, e)
	}
}

// someE and allI are rules with fresh names.
const (
	someE = "some x ?A / fresh ?a {?A[?a/x]} ?C => ?C"
	allI  = "fresh ?a ?A[?a/x] => all x ?A"
)

// The tests' own readers and writers.
func TestTexts(t *testing.T) {
	for _, s := range []string{"some x ?A / fresh ?a {?A[?a/x]} ?C", "[]?A / closed {?A; ?B} ?D", "?A", ""} {
		if got := premsText(ruleOf(s + " => P").Prems); got != s {
			t.Error(got, s)
		}
	}
	concl, l := stepOf("{P; -} Q with R; S / P => Q & R")
	if text(concl) != "Q & R" || len(l) != 2 || text(l[0].Concl) != "Q" || len(l[0].Hyps) != 2 || !l[0].Hyps[0].Some || text(l[0].Hyps[0].Form) != "P" || l[0].Hyps[1].Some || len(l[0].Rest) != 2 || text(l[0].Rest[1]) != "S" || len(l[1].Hyps)+len(l[1].Rest) != 0 || text(l[1].Concl) != "P" {
		t.Error(concl, l)
	}
	b := binding("?A: P(?x12, x); ?t: f(?y)")
	if len(b.Forms) != 1 || len(b.Terms) != 1 || b.Forms[0].Form.Args[0].Name != "?x12" || b.Forms[0].Form.Args[1].Name != "x" || b.Terms[0].Term.Args[0].Name != "?y" {
		t.Error(b)
	}
}

// The chapter's examples.
func TestExamples(t *testing.T) {
	accepts(t, someE, "some x P(x) / {P(y)} Q => Q", "?A: P(?x); ?C: Q; ?a: y")
	rejects(t, someE, "some x P(x) / {P(y)} Q(y) => Q(y)", rule.FaultConcl, 1, 0)
	rejects(t, someE, "some x P(x) / {P(y)} Q with R(y) => Q", rule.FaultRest, 1, 0)
	rejects(t, someE, "some x S(x, y) / {S(y, y)} Q => Q", rule.FaultBound, 1, 0)
	rejects(t, someE, "some x P(x) / {P(c)} Q => Q", rule.FaultVar, 1, 0)
	accepts(t, someE, "some x P(f(x)) / {P(f(y))} Q => Q", "?A: P(f(?x)); ?C: Q; ?a: y")
}

// The numbers of the constants.
func TestConstants(t *testing.T) {
	if rule.MaxPrems != 4 || rule.MaxHyps != 3 || rule.ErrStep != 80 {
		t.Error(rule.MaxPrems, rule.MaxHyps, rule.ErrStep)
	}
	for i, kind := range []uint8{rule.FaultPrems, rule.FaultMatch, rule.FaultVar, rule.FaultConcl, rule.FaultRest, rule.FaultBound, rule.FaultClosed} {
		if int(kind) != i+1 {
			t.Error(i, kind)
		}
	}
}

// The chapter lets the package use no layers but syntax, subst and match.
func TestImports(t *testing.T) {
	files, err := filepath.Glob("*.go")
	if err != nil || len(files) == 0 {
		t.Fatal(files, err)
	}
	for _, file := range files {
		if strings.HasSuffix(file, "_test.go") {
			continue
		}
		f, err := parser.ParseFile(token.NewFileSet(), file, nil, parser.ImportsOnly)
		if err != nil {
			t.Fatal(err)
		}
		for _, i := range f.Imports {
			path := strings.Trim(i.Path.Value, `"`)
			if strings.HasPrefix(path, "lyceum") && !slices.Contains([]string{"lyceum/api", "lyceum/syntax", "lyceum/subst", "lyceum/match"}, path) {
				t.Error(file, "imports", path)
			}
		}
	}
}

package subst_test

import (
	"go/parser"
	"go/token"
	"math/rand/v2"
	"path/filepath"
	"slices"
	"strconv"
	"strings"
	"testing"

	"lyceum/api"
	"lyceum/subst"
	"lyceum/syntax"
)

// The following make terms and formulas.

func variable(name string) api.Term { return api.Term{Var: true, Name: name} }

func function(name string, args ...api.Term) api.Term { return api.Term{Name: name, Args: args} }

func atom(name string, args ...api.Term) api.Form {
	return api.Form{Op: api.OpAtom, Name: name, Args: args}
}

func op(op uint8, sub ...api.Form) api.Form { return api.Form{Op: op, Sub: sub} }

func and(f, g api.Form) api.Form { return op(api.OpAnd, f, g) }

func all(x string, f api.Form) api.Form {
	return api.Form{Op: api.OpAll, Name: x, Sub: []api.Form{f}}
}

// nots is a formula within so many signs of negation.
func nots(n int, f api.Form) api.Form {
	for range n {
		f = op(api.OpNot, f)
	}
	return f
}

// wraps is a term within so many functions.
func wraps(n int, t api.Term) api.Term {
	for range n {
		t = function("f", t)
	}
	return t
}

// bushy is a term of so many nodes whose depth is small.
func bushy(nodes int) api.Term {
	t := function("a")
	for rest := nodes - 1; rest > 0; {
		part := min((nodes+2)/4, rest)
		t.Args = append(t.Args, bushy(part))
		rest -= part
	}
	return t
}

// conj is the conjunction of formulas, of small depth.
func conj(l ...api.Form) api.Form {
	if len(l) == 1 {
		return l[0]
	}
	return and(conj(l[:len(l)/2]...), conj(l[len(l)/2:]...))
}

// text is what the following read from: some quantifiers and operators of one part, atoms, and signs of two parts in brackets.
type text struct{ rest string }

// skip skips a word, if it is there.
func (r *text) skip(word string) bool {
	rest, found := strings.CutPrefix(r.rest, word)
	r.rest = rest
	return found
}

// name reads letters, digits and question marks.
func (r *text) name() string {
	n := 0
	for n < len(r.rest) && (r.rest[n] >= '0' && r.rest[n] <= '9' || r.rest[n] >= '?' && r.rest[n] <= 'z') {
		n++
	}
	name := r.rest[:n]
	r.rest = r.rest[n:]
	return name
}

// args reads terms in brackets, if they are there.
func (r *text) args() []api.Term {
	var l []api.Term
	if r.skip("(") {
		for !r.skip(")") {
			l = append(l, r.term())
			r.skip(",")
		}
	}
	return l
}

func (r *text) term() api.Term {
	name := r.name()
	if name == "" {
		panic("no term: " + r.rest)
	}
	return api.Term{Var: syntax.Variable(name) || name[0] == '?', Name: name, Args: r.args()}
}

func (r *text) form() api.Form {
	for _, w := range []struct {
		word   string
		op     uint8
		quants bool
	}{{"all ", api.OpAll, true}, {"some ", api.OpSome, true}, {"~", api.OpNot, false}, {"[]", api.OpBox, false}, {"<>", api.OpDia, false}, {"next ", api.OpNext, false}, {"always ", api.OpAlways, false}} {
		if r.skip(w.word) {
			f := api.Form{Op: w.op}
			if w.quants {
				f.Name = r.name()
				r.skip(" ")
			}
			f.Sub = []api.Form{r.form()}
			return f
		}
	}
	if r.skip("(") {
		f := r.form()
		for i, sign := range []string{" & ", " | ", " -> ", " <-> ", " until "} {
			if r.skip(sign) {
				f = api.Form{Op: []uint8{api.OpAnd, api.OpOr, api.OpImp, api.OpIff, api.OpUntil}[i], Sub: []api.Form{f, r.form()}}
				break
			}
		}
		if !r.skip(")") {
			panic("no bracket: " + r.rest)
		}
		return f
	}
	if r.skip("false") {
		return op(api.OpFalse)
	}
	return atom(r.name(), r.args()...)
}

// form reads a formula.
func form(s string) api.Form {
	r := text{s}
	f := r.form()
	if r.rest != "" {
		panic("not read: " + r.rest)
	}
	return f
}

// term reads a term.
func term(s string) api.Term {
	r := text{s}
	t := r.term()
	if r.rest != "" {
		panic("not read: " + r.rest)
	}
	return t
}

// list reads what is put for variables: x=f(y) x=a, for example.
func list(s string) []subst.One {
	var l []subst.One
	for _, w := range strings.Fields(s) {
		name, t, _ := strings.Cut(w, "=")
		l = append(l, subst.One{Name: name, Term: term(t)})
	}
	return l
}

// spelt is a text that tells formulas apart, right ones and others.
func spelt(f api.Form) string {
	s := strconv.Itoa(int(f.Op)) + strconv.Quote(f.Name) + "("
	for _, t := range f.Args {
		s += speltTerm(t)
	}
	s += ")("
	for _, p := range f.Sub {
		s += spelt(p)
	}
	return s + ")"
}

func speltTerm(t api.Term) string {
	s := strconv.FormatBool(t.Var) + strconv.Quote(t.Name) + "("
	for _, a := range t.Args {
		s += speltTerm(a)
	}
	return s + ")"
}

func speltList(l []subst.One) string {
	s := ""
	for _, o := range l {
		s += strconv.Quote(o.Name) + speltTerm(o.Term)
	}
	return s
}

// zero reports whether a formula is zero.
func zero(f api.Form) bool {
	return f.Op == 0 && f.Name == "" && len(f.Args) == 0 && len(f.Sub) == 0
}

// nameless is a text of a formula in which a bound variable is told by how many quantifiers are between it and its own, and a free one is what is put for it, with its Name if nothing is. Two formulas have the same if and only if they are equal up to bound names; nothing is captured, as what is put has free variables alone.
func nameless(f api.Form, l []subst.One, around ...string) string {
	s := "(" + strconv.Itoa(int(f.Op))
	if f.Op == api.OpAll || f.Op == api.OpSome {
		around = append(slices.Clone(around), f.Name)
	} else {
		s += f.Name
	}
	for _, t := range f.Args {
		s += namelessTerm(t, l, around)
	}
	for _, p := range f.Sub {
		s += nameless(p, l, around...)
	}
	return s + ")"
}

func namelessTerm(t api.Term, l []subst.One, around []string) string {
	s := " " + t.Name
	if t.Var {
		for i, name := range slices.Backward(around) {
			if name == t.Name {
				return " #" + strconv.Itoa(len(around)-i)
			}
		}
		for _, o := range l {
			if o.Name == t.Name {
				return namelessTerm(o.Term, nil, nil)
			}
		}
		s += "!"
	}
	s += "["
	for _, a := range t.Args {
		s += namelessTerm(a, l, around)
	}
	return s + "]"
}

// few is the names of variables that are drawn: so few that they often meet.
var few = []string{"x", "y", "x1", "x2"}

// anyTerm and anyForm draw right terms and formulas.

func anyTerm(r *rand.Rand, depth int) api.Term {
	k := r.IntN(8)
	if depth == 0 || k < 4 {
		return variable(few[r.IntN(len(few))])
	}
	if k == 4 {
		return function("a")
	}
	if k == 5 {
		return function("g", anyTerm(r, depth-1), anyTerm(r, depth-1))
	}
	return function("f", anyTerm(r, depth-1))
}

func anyForm(r *rand.Rand, depth int) api.Form {
	k := r.IntN(10)
	if depth == 0 || k == 0 {
		return atom("R", anyTerm(r, 1), anyTerm(r, 1))
	}
	if k < 6 {
		return api.Form{Op: api.OpAll + uint8(r.IntN(2)), Name: few[r.IntN(len(few))], Sub: []api.Form{anyForm(r, depth-1)}}
	}
	if k == 6 {
		return op(api.OpNot, anyForm(r, depth-1))
	}
	return and(anyForm(r, depth-1), anyForm(r, depth-1))
}

// anyList draws what is put for some variables.
func anyList(r *rand.Rand) []subst.One {
	var l []subst.One
	for _, i := range r.Perm(len(few))[:1+r.IntN(len(few))] {
		l = append(l, subst.One{Name: few[i], Term: anyTerm(r, 2)})
	}
	return l
}

// someForms is a corpus of right formulas.
func someForms() []api.Form {
	r := rand.New(rand.NewPCG(3, 3))
	l := []api.Form{form("false"), form("P"), form("all x false")}
	for i := range 600 {
		l = append(l, anyForm(r, 1+i%6))
	}
	return l
}

// wrongForms is formulas that are not right.
func wrongForms() []api.Form {
	x := variable("x")
	return []api.Form{
		{},
		op(99, form("P")),
		op(api.OpNot),
		atom("p"),
		atom("P", x, x, x, x, x),
		atom("P", variable("?t")),
		atom("P", api.Term{Var: true, Name: "x", Args: []api.Term{x}}),
		atom("P", function("x")),
		all("a", form("P")),
		all("", form("P")),
		{Op: api.OpAll, Name: "x", Args: []api.Term{x}, Sub: []api.Form{form("P(x)")}},
		{Op: api.OpSome, Name: "x", Sub: []api.Form{form("P(x)"), form("Q(x)")}},
		{Op: api.OpMeta, Name: "?A"},
		{Op: api.OpInst, Name: "?A", Args: []api.Term{x, variable("?t")}},
		form("all x (P(x) & Q(?t))"),
		nots(40, form("P")),
		conj(slices.Repeat([]api.Form{form("P")}, 201)...),
	}
}

// P3.1 to P3.3: the examples of the chapter.
func TestExamples(t *testing.T) {
	f := form("(some x P(x,y) & Q(x))")
	if !slices.Equal(subst.Free(f), []string{"x", "y"}) || !slices.Equal(subst.Bound(f), []string{"x"}) {
		t.Error(subst.Free(f), subst.Bound(f))
	}
	for _, c := range []struct{ f, l, want string }{
		{"(some x P(x,y) & Q(x))", "y=f(x)", "(some x1 P(x1,f(x)) & Q(x))"},
		{"(some x P(x,y) & Q(x))", "x=f(x)", "(some x P(x,y) & Q(f(x)))"},
		{"all x some x1 R(x,x1,y)", "y=g(x1,x)", "all x2 some x3 R(x2,x3,g(x1,x))"},
	} {
		o := list(c.l)[0]
		if got, e := subst.Put(form(c.f), o.Name, o.Term); e != api.OK || spelt(got) != spelt(form(c.want)) {
			t.Error(c, got, e)
		}
	}
	if got := subst.Fresh([]string{"x1", "x3"}); got != "x2" {
		t.Error(got)
	}
	if got, e := subst.Normal(form("all y (P(y) -> some z R(y,z,x1))")); e != api.OK || spelt(got) != spelt(form("all x2 (P(x2) -> some x3 R(x2,x3,x1))")) {
		t.Error(got, e)
	}
}

// The chapter lets the package use no layer but syntax.
func TestImports(t *testing.T) {
	files, err := filepath.Glob("*.go")
	if err != nil || len(files) == 0 {
		t.Fatal(files, err)
	}
	for _, file := range files {
		if strings.HasSuffix(file, "_test.go") {
			continue
		}
		f, err := parser.ParseFile(token.NewFileSet(), file, nil, parser.ImportsOnly)
		if err != nil {
			t.Fatal(err)
		}
		for _, i := range f.Imports {
			path := i.Path.Value
			if strings.HasPrefix(path, `"lyceum`) && path != `"lyceum/api"` && path != `"lyceum/syntax"` {
				t.Error(file, "imports", path)
			}
		}
	}
}

// The limits of the whole allow 2^16 levels.
func TestDeep(t *testing.T) {
	const levels = 1 << 16
	u := wraps(levels-2, variable("x"))
	if got := subst.FreeTerm(u); !slices.Equal(got, []string{"x"}) {
		t.Error(got)
	}
	if got := subst.PutTerm(u, list("x=f(y)")); !syntax.SameTerm(got, wraps(levels-1, variable("y"))) {
		t.Error("PutTerm of a deep term")
	}
	if got := subst.PutTerm(function("f", variable("x")), []subst.One{{Name: "x", Term: u}}); !syntax.SameTerm(got, wraps(levels-1, variable("x"))) {
		t.Error("PutTerm with a deep term")
	}
	// Each quantifier has a Name of its own, so none may cost more than a few steps.
	f := atom("P", variable("x1"), variable("y"))
	for i := range levels - 2 {
		f = all("x"+strconv.Itoa(i), f)
	}
	if got := subst.Free(f); !slices.Equal(got, []string{"y"}) {
		t.Error(got)
	}
	if got := subst.Bound(f); len(got) != levels-2 {
		t.Error(len(got))
	}
	for _, g := range []api.Form{f, atom("P", u)} {
		if got, e := subst.Put(g, "y", variable("x")); !zero(got) || e != api.ErrArg {
			t.Error(e)
		}
		if got, e := subst.Normal(g); !zero(got) || e != api.ErrArg {
			t.Error(e)
		}
		if subst.Alpha(g, g) {
			t.Error("a deep formula is right")
		}
	}
}

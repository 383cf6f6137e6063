package syntax_test

import (
	"go/parser"
	"go/token"
	"math/rand/v2"
	"path/filepath"
	"reflect"
	"strconv"
	"strings"
	"testing"

	"lyceum/api"
	"lyceum/syntax"
)

// The following make terms and formulas.

func variable(name string) api.Term { return api.Term{Var: true, Name: name} }

func function(name string, args ...api.Term) api.Term { return api.Term{Name: name, Args: args} }

func atom(name string, args ...api.Term) api.Form {
	return api.Form{Op: api.OpAtom, Name: name, Args: args}
}

func op(op uint8, sub ...api.Form) api.Form { return api.Form{Op: op, Sub: sub} }

func not(f api.Form) api.Form { return op(api.OpNot, f) }

func and(f, g api.Form) api.Form { return op(api.OpAnd, f, g) }

func some(x string, f api.Form) api.Form {
	return api.Form{Op: api.OpSome, Name: x, Sub: []api.Form{f}}
}

func all(x string, f api.Form) api.Form {
	return api.Form{Op: api.OpAll, Name: x, Sub: []api.Form{f}}
}

func meta(name string) api.Form { return api.Form{Op: api.OpMeta, Name: name} }

func inst(name string, args ...api.Term) api.Form {
	return api.Form{Op: api.OpInst, Name: name, Args: args}
}

// nots is a formula within so many signs of negation.
func nots(n int, f api.Form) api.Form {
	for range n {
		f = not(f)
	}
	return f
}

// wraps is a term within so many functions.
func wraps(n int, t api.Term) api.Term {
	for range n {
		t = function("f", t)
	}
	return t
}

// balanced is a formula of so many atoms, and of one node less besides them, whose depth is small.
func balanced(atoms int) api.Form {
	if atoms == 1 {
		return atom("P")
	}
	return and(balanced(atoms/2), balanced(atoms-atoms/2))
}

// spelt is a text that tells formulas apart, made in a way of its own.
func spelt(f api.Form) string {
	s := "F" + strconv.Itoa(int(f.Op)) + strconv.Quote(f.Name) + "("
	for _, t := range f.Args {
		s += speltTerm(t)
	}
	s += ")("
	for _, p := range f.Sub {
		s += spelt(p)
	}
	return s + ")"
}

func speltTerm(t api.Term) string {
	s := "T" + strconv.FormatBool(t.Var) + strconv.Quote(t.Name) + "("
	for _, a := range t.Args {
		s += speltTerm(a)
	}
	return s + ")"
}

// anyTerm and anyForm draw terms and formulas, right ones and others; few names, so that equal ones are frequent.

func anyTerm(r *rand.Rand, depth int) api.Term {
	t := api.Term{Var: r.IntN(2) == 0, Name: []string{"x", "y", "a", "f", "", "?t"}[r.IntN(6)]}
	if depth > 0 && r.IntN(3) == 0 {
		for range r.IntN(3) {
			t.Args = append(t.Args, anyTerm(r, depth-1))
		}
	}
	return t
}

func anyForm(r *rand.Rand, depth int) api.Form {
	f := api.Form{Op: []uint8{1, 1, 1, 2, 3, 4, 8, 16, 0, 31, 32, 255}[r.IntN(12)], Name: []string{"", "P", "Q", "x", "\xff"}[r.IntN(5)]}
	for range r.IntN(3) {
		f.Args = append(f.Args, anyTerm(r, 2))
	}
	if depth > 0 {
		for range r.IntN(4) {
			f.Sub = append(f.Sub, anyForm(r, depth-1))
		}
	}
	return f
}

// rightForm draws right formulas.
func rightForm(r *rand.Rand, depth int) api.Form {
	if depth == 0 {
		return []api.Form{atom("P"), atom("Q", variable("x")), op(api.OpFalse), atom("R", function("f", variable("y")), function("a"))}[r.IntN(4)]
	}
	k := uint8(r.IntN(14) + 1)
	switch k {
	case api.OpAtom, api.OpFalse:
		return rightForm(r, 0)
	case api.OpAll:
		return all("x", rightForm(r, depth-1))
	case api.OpSome:
		return some("y", rightForm(r, depth-1))
	case api.OpAnd, api.OpOr, api.OpImp, api.OpIff, api.OpUntil:
		return op(k, rightForm(r, depth-1), rightForm(r, depth-1))
	}
	return op(k, rightForm(r, depth-1))
}

// someForms is a corpus of formulas, right ones and others.
func someForms() []api.Form {
	r := rand.New(rand.NewPCG(2, 2))
	l := []api.Form{{}, atom("P"), meta("?A"), inst("?A", variable("x"), variable("?t")), nots(50, atom("P")), atom("P", wraps(50, variable("x")))}
	for range 150 {
		l = append(l, anyForm(r, 3), rightForm(r, 4))
	}
	return l
}

// example is the formula some x (P(x, f(a)) & ~Q) of the chapter.
func example() api.Form {
	return some("x", and(atom("P", variable("x"), function("f", function("a"))), not(atom("Q"))))
}

// same reports whether two lists of formulas are equal.
func same(a, b []api.Form) bool {
	if len(a) != len(b) {
		return false
	}
	for i := range a {
		if spelt(a[i]) != spelt(b[i]) {
			return false
		}
	}
	return true
}

func TestLimits(t *testing.T) {
	if syntax.MaxArgs != 4 || syntax.MaxParts != 1000 {
		t.Error(syntax.MaxArgs, syntax.MaxParts)
	}
}

// The chapter lets the package use no package of another layer.
func TestImports(t *testing.T) {
	files, err := filepath.Glob("*.go")
	if err != nil || len(files) == 0 {
		t.Fatal(files, err)
	}
	for _, file := range files {
		if strings.HasSuffix(file, "_test.go") {
			continue
		}
		f, err := parser.ParseFile(token.NewFileSet(), file, nil, parser.ImportsOnly)
		if err != nil {
			t.Fatal(err)
		}
		for _, i := range f.Imports {
			if strings.HasPrefix(i.Path.Value, `"lyceum`) && i.Path.Value != `"lyceum/api"` {
				t.Error(file, "imports", i.Path.Value)
			}
		}
	}
}

// P2.1 to P2.4: the example of the chapter.
func TestExample(t *testing.T) {
	f := example()
	if !syntax.Right(f) || !syntax.Schema(f) || syntax.Nodes(f) != 8 || syntax.Depth(f) != 5 {
		t.Error(syntax.Right(f), syntax.Schema(f), syntax.Nodes(f), syntax.Depth(f))
	}
	p := atom("P", variable("x"), function("f", function("a")))
	q := atom("Q")
	if got := syntax.Parts(f); !same(got, []api.Form{f, and(p, not(q)), p, not(q), q}) {
		t.Error("Parts:", got)
	}
	if got, e := syntax.At(f, []int{0, 1, 0}); spelt(got) != spelt(q) || e != api.OK {
		t.Error("At:", got, e)
	}
	if got := syntax.Predicates(f); !reflect.DeepEqual(got, []syntax.Symbol{{Name: "P", Arity: 2}, {Name: "Q", Arity: 0}}) {
		t.Error("Predicates:", got)
	}
	if got := syntax.Functions(f); !reflect.DeepEqual(got, []syntax.Symbol{{Name: "a", Arity: 0}, {Name: "f", Arity: 1}}) {
		t.Error("Functions:", got)
	}
}

// The limits of the whole allow 2^16 levels.
func TestDeep(t *testing.T) {
	const levels = 1 << 16
	u := wraps(levels-2, variable("x"))
	f := atom("P", u)
	g := nots(levels-2, atom("Q"))
	if !syntax.Term(u) || !syntax.SameTerm(u, wraps(levels-2, variable("x"))) || syntax.SameTerm(u, wraps(levels-2, variable("y"))) {
		t.Error("a deep term")
	}
	for i, h := range []api.Form{f, g} {
		if syntax.Right(h) || syntax.Schema(h) || syntax.Nodes(h) != levels-i || syntax.Depth(h) != levels-i {
			t.Error(syntax.Right(h), syntax.Schema(h), syntax.Nodes(h), syntax.Depth(h))
		}
		if !syntax.Same(h, syntax.Copy(h)) || syntax.Parts(h) != nil {
			t.Error("a deep formula is not the same, or has parts")
		}
	}
	if syntax.Ops(f) != 1<<api.OpAtom || syntax.Ops(g) != 1<<api.OpAtom|1<<api.OpNot || syntax.Compare(f, g) != -1 {
		t.Error(syntax.Ops(f), syntax.Ops(g), syntax.Compare(f, g))
	}
	if len(syntax.Functions(f)) != 1 || len(syntax.Predicates(g)) != 1 {
		t.Error(syntax.Functions(f), syntax.Predicates(g))
	}
	place := make([]int, levels-2)
	if got, e := syntax.At(g, place); spelt(got) != spelt(atom("Q")) || e != api.OK {
		t.Error("At:", got, e)
	}
	if got, e := syntax.With(g, place, op(api.OpFalse)); !syntax.Same(got, nots(levels-2, op(api.OpFalse))) || e != api.OK {
		t.Error("With:", e)
	}
	if got, e := syntax.With(g, append(place, 0), op(api.OpFalse)); !reflect.DeepEqual(got, api.Form{}) || e != api.ErrNone {
		t.Error("With:", got, e)
	}
}

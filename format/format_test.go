package format_test

import (
	"fmt"
	"go/parser"
	"go/token"
	"path/filepath"
	"strings"
	"testing"

	"lyceum/api"
	"lyceum/format"
	"lyceum/syntax"
)

// variable and function make terms; atom, meta, inst, not, all and so on make schemas.
func variable(name string) api.Term { return api.Term{Var: true, Name: name} }

func function(name string, args ...api.Term) api.Term { return api.Term{Name: name, Args: args} }

func atom(name string, args ...api.Term) api.Form {
	return api.Form{Op: api.OpAtom, Name: name, Args: args}
}

func meta(name string) api.Form { return api.Form{Op: api.OpMeta, Name: name} }

func inst(name, term, x string) api.Form {
	return api.Form{Op: api.OpInst, Name: name, Args: []api.Term{variable(x), variable(term)}}
}

func one(op uint8, f api.Form) api.Form { return api.Form{Op: op, Sub: []api.Form{f}} }

func bound(op uint8, x string, f api.Form) api.Form {
	return api.Form{Op: op, Name: x, Sub: []api.Form{f}}
}

func two(op uint8, f, g api.Form) api.Form { return api.Form{Op: op, Sub: []api.Form{f, g}} }

func and(f, g api.Form) api.Form   { return two(api.OpAnd, f, g) }
func or(f, g api.Form) api.Form    { return two(api.OpOr, f, g) }
func imp(f, g api.Form) api.Form   { return two(api.OpImp, f, g) }
func iff(f, g api.Form) api.Form   { return two(api.OpIff, f, g) }
func until(f, g api.Form) api.Form { return two(api.OpUntil, f, g) }
func not(f api.Form) api.Form      { return one(api.OpNot, f) }

// writes checks the three texts of a formula, and that it is written in a list likewise.
func writes(t *testing.T, f api.Form, text, full, prefix string) {
	t.Helper()
	before := fmt.Sprint(f)
	check(t, "Form", format.Form, f, text)
	check(t, "Full", format.Full, f, full)
	check(t, "Prefix", format.Prefix, f, prefix)
	check(t, "Forms", format.Forms, []api.Form{f, f}, text+", "+text)
	if fmt.Sprint(f) != before {
		t.Errorf("the formula was %.200s, and is %.200v", before, f)
	}
}

// check checks what a function writes.
func check[T any](t *testing.T, name string, write func(T) (string, api.Errno), v T, want string) {
	t.Helper()
	if s, e := write(v); s != want || e != api.OK {
		t.Errorf("%s of %.200v is %.200q, %d; want %.200q", name, v, s, e, want)
	}
}

// rejects checks that all texts of a schema are ErrArg, in lists wherever it stands.
func rejects(t *testing.T, f api.Form) {
	t.Helper()
	if syntax.Schema(f) {
		t.Fatalf("%.200v is a right schema", f)
	}
	bad(t, "Form", format.Form, f)
	bad(t, "Full", format.Full, f)
	bad(t, "Prefix", format.Prefix, f)
	P := atom("P")
	for _, l := range [][]api.Form{{f}, {f, P}, {P, f}, {P, P, f, P}, {f, f}} {
		bad(t, "Forms", format.Forms, l)
	}
}

// bad checks that a function returns ErrArg, and nothing else.
func bad[T any](t *testing.T, name string, write func(T) (string, api.Errno), v T) {
	t.Helper()
	if s, e := write(v); s != "" || e != api.ErrArg {
		t.Errorf("%s of %.200v is %.200q, %d; want ErrArg", name, v, s, e)
	}
}

// P6.1: the examples.
func TestExamples(t *testing.T) {
	P, Q, R, S := atom("P"), atom("Q"), atom("R"), atom("S")
	writes(t, and(and(P, Q), R), "P & Q & R", "(P & Q) & R", "& & P Q R")
	writes(t, and(P, and(Q, R)), "P & (Q & R)", "P & (Q & R)", "& P & Q R")
	writes(t, imp(P, imp(Q, not(or(R, S)))), "P -> Q -> ~(R | S)", "P -> (Q -> ~(R | S))", "-> P -> Q ~ | R S")
	x := variable("x")
	writes(t, bound(api.OpAll, "x", imp(atom("P", x, function("f", function("a"))), Q)), "all x (P(x, f(a)) -> Q)", "all x (P(x, f(a)) -> Q)", "all x -> P(x,f(a)) Q")
	writes(t, until(until(P, Q), R), "(P until Q) until R", "(P until Q) until R", "until until P Q R")
	f := iff(one(api.OpNext, one(api.OpBox, inst("?A", "?t", "x"))), api.Form{Op: api.OpFalse})
	writes(t, f, "next []?A[?t/x] <-> false", "next []?A[?t/x] <-> false", "<-> next [] ?A[?t/x] false")
}

// P6.2: lists.
func TestForms(t *testing.T) {
	P, Q, R := atom("P"), atom("Q"), atom("R")
	x := variable("x")
	check(t, "Forms", format.Forms, nil, "")
	check(t, "Forms", format.Forms, []api.Form{}, "")
	check(t, "Forms", format.Forms, []api.Form{P}, "P")
	check(t, "Forms", format.Forms, []api.Form{P, imp(P, Q)}, "P, P -> Q")
	check(t, "Forms", format.Forms, []api.Form{and(and(P, Q), R), and(P, and(Q, R)), P}, "P & Q & R, P & (Q & R), P")
	check(t, "Forms", format.Forms, []api.Form{atom("P", x, function("a")), meta("?A"), atom("P", x)}, "P(x, a), ?A, P(x)")
	check(t, "Forms", format.Forms, []api.Form{P, P, P}, "P, P, P")
	many := make([]api.Form, 70000)
	for i := range many {
		many[i] = inst("?B", "?s", "y")
	}
	check(t, "Forms", format.Forms, many, strings.Repeat("?B[?s/y], ", 69999)+"?B[?s/y]")
	many[69999].Name = "B"
	bad(t, "Forms", format.Forms, many)
}

// P6.2: neither a list nor what is behind it in memory is modified, and texts do not change with their arguments.
func TestListStays(t *testing.T) {
	long := []api.Form{imp(atom("P"), atom("Q", function("a"))), not(atom("Q")), atom("R")}
	before := fmt.Sprint(long)
	s, _ := format.Forms(long[:2:3])
	if fmt.Sprint(long) != before {
		t.Errorf("the list is %v", long)
	}
	long[0].Sub[0].Name, long[0].Sub[1].Args[0].Name, long[1].Op = "S", "b", api.OpBox
	if s != "P -> Q(a), ~Q" {
		t.Errorf("the text is %q", s)
	}
}

// The package uses no package of another layer but syntax.
func TestImports(t *testing.T) {
	files, err := filepath.Glob("*.go")
	if err != nil || len(files) == 0 {
		t.Fatal(files, err)
	}
	for _, name := range files {
		if strings.HasSuffix(name, "_test.go") {
			continue
		}
		f, err := parser.ParseFile(token.NewFileSet(), name, nil, parser.ImportsOnly)
		if err != nil {
			t.Fatal(err)
		}
		for _, i := range f.Imports {
			switch p := strings.Trim(i.Path.Value, `"`); p {
			case "lyceum/api", "lyceum/syntax", "iter", "slices", "strings":
			default:
				t.Errorf("%s imports %s", name, p)
			}
		}
	}
}

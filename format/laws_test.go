package format_test

import (
	"fmt"
	"math/rand/v2"
	"strings"
	"testing"

	"lyceum/api"
	"lyceum/format"
	"lyceum/parse"
	"lyceum/syntax"
)

// drawer draws schemas.
type drawer struct{ *rand.Rand }

func (d drawer) pick(l ...string) string { return l[d.IntN(len(l))] }

// term is a right term of small depth, as in schemas.
func (d drawer) term(depth int) api.Term {
	switch n := d.IntN(7); {
	case n == 0:
		return variable(d.pick("?t", "?s1", "?aB"))
	case n < 3:
		return variable(d.pick("x", "y", "u0", "z20"))
	}
	t := function(d.pick("a", "b", "f", "g2H", "next1"))
	if depth > 1 {
		for range d.IntN(5) {
			t.Args = append(t.Args, d.term(depth-1))
		}
	}
	return t
}

// basic is a schema without parts.
func (d drawer) basic() api.Form {
	switch d.IntN(8) {
	case 0:
		return api.Form{Op: api.OpFalse}
	case 1:
		return meta(d.pick("?A", "?B", "?Until"))
	case 2:
		return inst(d.pick("?A", "?B"), d.pick("?t", "?s"), d.pick("x", "y1"))
	}
	f := atom(d.pick("P", "Q", "Even2"))
	for range max(0, d.IntN(8)-3) {
		f.Args = append(f.Args, d.term(3))
	}
	return f
}

// form is a schema of small depth.
func (d drawer) form(depth int) api.Form {
	if depth <= 1 || d.IntN(8) == 0 {
		return d.basic()
	}
	if d.IntN(3) == 0 {
		a := ahead[d.IntN(len(ahead))]
		f := bound(a.op, a.name, d.form(depth-1))
		if f.Name != "" {
			f.Name = d.pick("x", "y", "u0", "z20")
		}
		return f
	}
	f, g := d.form(depth-1), d.form(depth-1-d.IntN(3))
	if d.IntN(2) == 0 {
		f, g = g, f
	}
	return two(between[d.IntN(len(between))].op, f, g)
}

// right draws until it has a right schema.
func (d drawer) right(depth int) api.Form {
	for {
		if f := d.form(depth); syntax.Schema(f) {
			return f
		}
	}
}

// small is all schemas of so many levels of operators, above two basic ones.
func small(levels int) []api.Form {
	l := []api.Form{atom("P", variable("x")), inst("?A", "?t", "x")}
	for range levels {
		next := l[:2:2]
		for _, f := range l {
			for _, a := range ahead {
				next = append(next, bound(a.op, a.name, f))
			}
			for _, g := range l {
				for _, b := range between {
					next = append(next, two(b.op, f, g))
				}
			}
		}
		l = next
	}
	return l
}

// drawn is schemas of all sizes.
func drawn(stream uint64, n int) []api.Form {
	d := drawer{rand.New(rand.NewPCG(6, stream))}
	var l []api.Form
	for i := range n {
		l = append(l, d.right(1+i%9))
	}
	return l
}

// written is a text of a schema, which has to be there.
func written(t *testing.T, write func(api.Form) (string, api.Errno), f api.Form) string {
	t.Helper()
	s, e := write(f)
	if e != api.OK {
		t.Fatalf("%v: %q, %d", f, s, e)
	}
	return s
}

// P6.3: reading the text, or the full text, of a schema gives the schema.
func TestReadBack(t *testing.T) {
	for _, f := range append(small(2), drawn(1, 4000)...) {
		for _, write := range []func(api.Form) (string, api.Errno){format.Form, format.Full} {
			s := written(t, write, f)
			if g, at, e := parse.Schema(s); e != api.OK || !syntax.Same(f, g) {
				t.Fatalf("%q is read as %v, %d, %d; want %v", s, g, at, e, f)
			}
		}
	}
}

// pairs is the places of the brackets of a text, of each pair the one that opens and the one that closes.
func pairs(s string) [][2]int {
	var l [][2]int
	var open []int
	for i := range len(s) {
		switch s[i] {
		case '(':
			open = append(open, i)
		case ')':
			l = append(l, [2]int{open[len(open)-1], i})
			open = open[:len(open)-1]
		}
	}
	return l
}

// P6.3: no pair of brackets can be left out of the text.
func TestNoneLeftOut(t *testing.T) {
	for _, f := range append(small(2), drawn(2, 2500)...) {
		s := written(t, format.Form, f)
		for _, p := range pairs(s) {
			for _, space := range []string{"", " "} {
				less := s[:p[0]] + space + s[p[0]+1:p[1]] + space + s[p[1]+1:]
				if g, _, e := parse.Schema(less); e == api.OK && syntax.Same(f, g) {
					t.Fatalf("%q is read as %q, too", less, s)
				}
			}
		}
	}
}

// P6.1: the full text has a pair of brackets for each part that has a sign between two, and one for the terms of each name.
func TestAllBrackets(t *testing.T) {
	for _, f := range append(small(2), drawn(3, 3000)...) {
		s := written(t, format.Full, f)
		want := pairsOf(f)
		if len(f.Sub) == 2 {
			want--
		}
		if n := len(pairs(s)); n != want {
			t.Fatalf("%q has %d pairs; want %d", s, n, want)
		}
	}
}

// pairsOf is how many pairs of brackets are in the full text of a part, with its own ones.
func pairsOf(f api.Form) int {
	n := 0
	if len(f.Sub) == 2 {
		n = 1
	}
	if f.Op == api.OpAtom {
		n += pairsOfTerms(f.Args)
	}
	for _, p := range f.Sub {
		n += pairsOf(p)
	}
	return n
}

func pairsOfTerms(l []api.Term) int {
	if len(l) == 0 {
		return 0
	}
	n := 1
	for _, t := range l {
		n += pairsOfTerms(t.Args)
	}
	return n
}

// P6.3: schemas that differ have different texts, full texts and prefix texts.
func TestDifferent(t *testing.T) {
	forms := append(small(2), drawn(4, 8000)...)
	for _, write := range []func(api.Form) (string, api.Errno){format.Form, format.Full, format.Prefix} {
		first := map[string]api.Form{}
		for _, f := range forms {
			s := written(t, write, f)
			if g, found := first[s]; found && !syntax.Same(f, g) {
				t.Fatalf("%q is the text of %v and of %v", s, f, g)
			}
			first[s] = f
		}
	}
}

// readPrefix reads a formula from the words of a prefix text, and returns the words behind it.
func readPrefix(words []string) (api.Form, []string) {
	for _, a := range ahead {
		if w := strings.Fields(a.prefix)[0]; words[0] == w {
			rest, name := words[1:], ""
			if a.name != "" {
				rest, name = words[2:], words[1]
			}
			f, rest := readPrefix(rest)
			return bound(a.op, name, f), rest
		}
	}
	for _, b := range between {
		if words[0] == b.sign {
			f, rest := readPrefix(words[1:])
			g, rest := readPrefix(rest)
			return two(b.op, f, g), rest
		}
	}
	f, _, _ := parse.Schema(words[0])
	return f, words[1:]
}

// P6.1: the prefix text has one space between two words, and says what the schema is without any brackets.
func TestPrefix(t *testing.T) {
	for _, f := range append(small(2), drawn(5, 4000)...) {
		s := written(t, format.Prefix, f)
		words := strings.Fields(s)
		if s != strings.Join(words, " ") {
			t.Fatalf("%q has other spaces", s)
		}
		if g, rest := readPrefix(words); len(rest) > 0 || !syntax.Same(f, g) {
			t.Fatalf("%q says %v, %v; want %v", s, g, rest, f)
		}
	}
}

// P6.1: reading the text of a term gives the term.
func TestTermReadBack(t *testing.T) {
	d := drawer{rand.New(rand.NewPCG(6, 6))}
	for i := range 3000 {
		u := d.term(1 + i%5)
		s, e := format.Term(u)
		if e != api.OK {
			t.Fatalf("%v: %d", u, e)
		}
		if syntax.Nodes(api.Form{Args: []api.Term{u}}) > api.MaxNodes {
			continue
		}
		f, _, e := parse.Schema("P(" + s + ")")
		if e != api.OK || len(f.Args) != 1 || !syntax.SameTerm(f.Args[0], u) {
			t.Fatalf("%q is read as %v; want %v", s, f.Args, u)
		}
	}
}

// P6.2: the text of a list is its texts with commas between them, and reading it gives the list if it has no metavariables.
func TestListReadBack(t *testing.T) {
	d := drawer{rand.New(rand.NewPCG(6, 7))}
	for i := range 600 {
		var l []api.Form
		var texts []string
		for range i % 12 {
			f := d.right(1 + d.IntN(6))
			l, texts = append(l, f), append(texts, written(t, format.Form, f))
		}
		s, e := format.Forms(l)
		if want := strings.Join(texts, ", "); s != want || e != api.OK {
			t.Fatalf("%q, %d; want %q", s, e, want)
		}
		if strings.Contains(s, "?") {
			continue
		}
		if r, _, e := parse.Forms(s); e != api.OK || fmt.Sprint(r) != fmt.Sprint(l) {
			t.Fatalf("%q is read as %v; want %v", s, r, l)
		}
	}
}

// P6.1: texts do not depend on what was written before.
func TestTextsAlone(t *testing.T) {
	forms := drawn(8, 300)
	var texts []string
	for _, f := range forms {
		texts = append(texts, written(t, format.Form, f), written(t, format.Full, f), written(t, format.Prefix, f))
	}
	for _, i := range rand.New(rand.NewPCG(6, 9)).Perm(len(forms)) {
		format.Form(wrongForms()[i%20])
		writes(t, forms[i], texts[3*i], texts[3*i+1], texts[3*i+2])
	}
}

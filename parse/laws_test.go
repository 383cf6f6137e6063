package parse_test

import (
	"math/rand/v2"
	"strings"
	"testing"

	"lyceum/api"
	"lyceum/lex"
	"lyceum/parse"
	"lyceum/syntax"
)

// drawer draws formulas and schemas, and writes them.
type drawer struct {
	*rand.Rand
	metas  bool
	spaces bool // whether all blanks are drawn, not just single spaces
	extra  int  // of how many formulas one gets needless brackets; 0: none
}

func (d drawer) pick(l ...string) string { return l[d.IntN(len(l))] }

// term is a right term of small depth.
func (d drawer) term(depth int) api.Term {
	if d.metas && d.IntN(4) == 0 {
		return api.Term{Var: true, Name: d.pick("?t", "?s1", "?a")}
	}
	if d.IntN(2) == 0 {
		return api.Term{Var: true, Name: d.pick("x", "y", "u0", "z20")}
	}
	t := api.Term{Name: d.pick("a", "b", "f", "g2H")}
	if depth > 1 {
		for range d.IntN(5) {
			t.Args = append(t.Args, d.term(depth-1))
		}
	}
	return t
}

// form is a formula, or a schema, of small depth.
func (d drawer) form(depth int) api.Form {
	if depth <= 1 {
		return d.basic()
	}
	f := api.Form{Op: uint8(1 + d.IntN(14))}
	switch f.Op {
	case api.OpAtom, api.OpFalse:
		return d.basic()
	case api.OpAnd, api.OpOr, api.OpImp, api.OpIff, api.OpUntil:
		f.Sub = []api.Form{d.form(depth - 1), d.form(depth - 1 - d.IntN(3))}
		if d.IntN(2) == 0 {
			f.Sub[0], f.Sub[1] = f.Sub[1], f.Sub[0]
		}
	default:
		f.Sub = []api.Form{d.form(depth - 1)}
		if f.Op == api.OpAll || f.Op == api.OpSome {
			f.Name = d.pick("x", "y", "u0", "z20")
		}
	}
	return f
}

// basic is a formula without parts.
func (d drawer) basic() api.Form {
	switch n := d.IntN(6); {
	case n == 0:
		return api.Form{Op: api.OpFalse}
	case n == 1 && d.metas:
		return api.Form{Op: api.OpMeta, Name: d.pick("?A", "?B", "?Until")}
	case n == 2 && d.metas:
		return api.Form{Op: api.OpInst, Name: d.pick("?A", "?B"), Args: []api.Term{{Var: true, Name: d.pick("x", "y1")}, {Var: true, Name: d.pick("?t", "?s")}}}
	}
	f := api.Form{Op: api.OpAtom, Name: d.pick("P", "Q", "Even2")}
	for range max(0, d.IntN(8)-3) {
		f.Args = append(f.Args, d.term(3))
	}
	return f
}

// right draws until it has a right schema.
func (d drawer) right(depth int) api.Form {
	for {
		if f := d.form(depth); syntax.Schema(f) {
			return f
		}
	}
}

// How much formulas bind: a part stands without brackets where it binds at least as much as is asked for.
const (
	anything = iota
	anImp
	anUntil
	anOr
	anAnd
	aUnary
)

// signs are the sign of an operator, how much it binds, and how much its two parts have to bind.
func signs(op uint8) (sign string, binds, left, right int) {
	switch op {
	case api.OpIff:
		return "<->", anything, anything, anImp
	case api.OpImp:
		return "->", anImp, anUntil, anImp
	case api.OpUntil:
		return "until", anUntil, anOr, anUntil
	case api.OpOr:
		return "|", anOr, anOr, anAnd
	}
	return "&", anAnd, anAnd, aUnary
}

// write is a text of a formula where it has to bind so much, as words with a space between two.
func (d drawer) write(f api.Form, asked int) string {
	if d.extra > 0 && d.IntN(d.extra) == 0 {
		return "( " + d.write(f, anything) + " )"
	}
	switch f.Op {
	case api.OpAtom:
		return f.Name + d.args(f.Args)
	case api.OpFalse:
		return "false"
	case api.OpMeta:
		return f.Name
	case api.OpInst:
		return f.Name + " [ " + f.Args[1].Name + " / " + f.Args[0].Name + " ]"
	case api.OpNot:
		return "~ " + d.write(f.Sub[0], aUnary)
	case api.OpBox:
		return "[] " + d.write(f.Sub[0], aUnary)
	case api.OpDia:
		return "<> " + d.write(f.Sub[0], aUnary)
	case api.OpNext, api.OpAlways:
		return opName(f.Op) + " " + d.write(f.Sub[0], aUnary)
	case api.OpAll, api.OpSome:
		return opName(f.Op) + " " + f.Name + " " + d.write(f.Sub[0], aUnary)
	}
	sign, binds, left, right := signs(f.Op)
	if binds < asked {
		return "( " + d.write(f, anything) + " )"
	}
	return d.write(f.Sub[0], left) + " " + sign + " " + d.write(f.Sub[1], right)
}

// args is the text of terms in brackets; empty if there are none.
func (d drawer) args(l []api.Term) string {
	var texts []string
	for _, t := range l {
		texts = append(texts, t.Name+d.args(t.Args))
	}
	if texts == nil {
		return ""
	}
	return " ( " + strings.Join(texts, " , ") + " )"
}

// spread is a text with other blanks between its words; with none, now and then, where words do not run into each other without.
func (d drawer) spread(s string) string {
	var b strings.Builder
	b.WriteString(d.blanks(0))
	words := strings.Fields(s)
	for i, w := range words {
		b.WriteString(w)
		least := 0
		if i+1 < len(words) && (letter(w[len(w)-1]) && letter(words[i+1][0]) || w == "[" && words[i+1] == "]") {
			least = 1
		}
		b.WriteString(d.blanks(least))
	}
	return b.String()
}

func (d drawer) blanks(least int) string {
	var b strings.Builder
	for range least + d.IntN(3)/2 {
		b.WriteString(d.pick(" ", "\t", "\n", "\r"))
	}
	return b.String()
}

// letter reports whether a byte is a letter or a digit.
func letter(b byte) bool {
	return '0' <= b && b <= '9' || 'a' <= b && b <= 'z' || 'A' <= b && b <= 'Z'
}

// P5.4: brackets and blanks that are not needed change nothing: what is read is what was written, with any of them.
func TestWrittenSchemas(t *testing.T) {
	r := rand.New(rand.NewPCG(5, 3))
	for i := range 6000 {
		d := drawer{Rand: r, metas: i%2 == 0, extra: []int{0, 0, 9, 3, 2}[i%5]}
		f := d.right(1 + i%9)
		words := d.write(f, anything)
		for _, s := range []string{words, d.spread(words), "(" + words + ")", "( ( " + d.spread(words) + " ) )"} {
			if g, at, e := parse.Schema(s); e != api.OK || at != 0 || !syntax.Same(f, g) {
				t.Fatalf("Schema(%q) = %s, %d, %d; want %s", s, show(g), at, e, show(f))
			}
			g, at, e := parse.Form(s)
			if meta := strings.Index(s, "?"); meta < 0 && (e != api.OK || !syntax.Same(f, g)) || meta >= 0 && (e != parse.ErrSyntax || at != meta) {
				t.Fatalf("Form(%q) = %s, %d, %d", s, show(g), at, e)
			}
		}
	}
}

// P5.2: terms that were written are read.
func TestWrittenTerms(t *testing.T) {
	d := drawer{Rand: rand.New(rand.NewPCG(5, 4))}
	for i := range 3000 {
		a := d.term(1 + i%5)
		words := a.Name + d.args(a.Args)
		b, at, e := parse.Term(d.spread(words))
		if large := syntax.Nodes(api.Form{Args: []api.Term{a}}) > 401; large && e == api.ErrLong {
			continue
		}
		if e != api.OK || at != 0 || !syntax.SameTerm(a, b) {
			t.Fatalf("Term(%q) = %s, %d, %d; want %s", words, showTerm(b), at, e, showTerm(a))
		}
	}
}

// P5.3: a list has the formulas that its texts are one by one; commas in brackets divide nothing.
func TestWrittenLists(t *testing.T) {
	d := drawer{Rand: rand.New(rand.NewPCG(5, 5)), extra: 5}
	for i := range 1000 {
		var texts, want []string
		for range i % 20 {
			f := d.right(1 + d.IntN(5))
			texts, want = append(texts, d.write(f, anything)), append(want, show(f))
		}
		forms(t, d.spread(strings.Join(texts, " , ")), strings.Join(want, " "))
	}
}

// P5.4: no blank changes an error, or the token at which it is; and what is behind this token changes nothing, as long as the text can be divided into tokens.
func TestErrorsStay(t *testing.T) {
	r := rand.New(rand.NewPCG(5, 6))
	for i := range 3000 {
		d := drawer{Rand: r, metas: i%2 == 0, extra: 6}
		l := strings.Fields(d.write(d.right(1+i%6), anything))
		l[r.IntN(len(l))] = words()[r.IntN(len(words()))]
		s := strings.Join(l, " ")
		_, at, e := parse.Schema(s)
		other := d.spread(s)
		_, at2, e2 := parse.Schema(other)
		if e != e2 || e != api.OK && e != api.ErrLong && tokenAt(t, s, at) != tokenAt(t, other, at2) {
			t.Fatalf("%q: %d, %d; %q: %d, %d", s, at, e, other, at2, e2)
		}
		if e != parse.ErrSyntax || at == len(s) {
			continue
		}
		n := tokenAt(t, s, at)
		rest := append(l[:n+1:n+1], words()[r.IntN(len(words()))], words()[r.IntN(len(words()))])
		noSchema(t, strings.Join(rest, " "), at, e)
	}
}

// tokenAt is the number of the token at a place.
func tokenAt(t *testing.T, s string, at int) int {
	t.Helper()
	l, _, _ := lex.Lex(s)
	for i, k := range l {
		if k.At == at {
			return i
		}
	}
	t.Fatalf("%q has no token at %d", s, at)
	return 0
}

// P5.4: what a text means does not depend on what was read before.
func TestTextsAlone(t *testing.T) {
	r := rand.New(rand.NewPCG(5, 7))
	d := drawer{Rand: r, metas: true, extra: 6}
	var texts, first []string
	for range 300 {
		s := d.write(d.right(4), anything)
		f, _, _ := parse.Schema(s)
		texts, first = append(texts, s), append(first, show(f))
	}
	for _, i := range r.Perm(len(texts)) {
		parse.Form(texts[i] + " )")
		parse.Forms(strings.Repeat("(", 130))
		parse.Term("f(x,")
		schema(t, texts[i], first[i])
	}
}

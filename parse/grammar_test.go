package parse_test

import (
	"math/rand/v2"
	"slices"
	"strings"
	"sync"
	"testing"

	"lyceum/api"
	"lyceum/lex"
	"lyceum/parse"
	"lyceum/syntax"
)

// grammar is that of the chapter, with one line for each way in which something can be made: what is in quotes stands for itself. Lists of formulas have a line for no formulas at all.
const grammar = `
forms =
forms = list
list = formula
list = list "," formula
formula = imp
formula = formula "<->" imp
imp = until
imp = until "->" imp
until = or
until = or "until" until
or = and
or = or "|" and
and = unary
and = and "&" unary
unary = "~" unary
unary = "[]" unary
unary = "<>" unary
unary = "next" unary
unary = "always" unary
unary = "all" variable unary
unary = "some" variable unary
unary = basic
basic = "(" formula ")"
basic = "false"
basic = predicate
basic = predicate "(" terms ")"
basic = meta
basic = meta "[" metaterm "/" variable "]"
terms = term
terms = terms "," term
term = variable
term = metaterm
term = function
term = function "(" terms ")"
`

// line is a line of the grammar.
type line struct {
	name string
	body []string
}

// node is how a part of a text is made: by a line of the grammar out of parts, or as a token.
type node struct {
	line  *line // nil for tokens
	parts []*node
	text  string
}

// reader finds out about the tokens of a text by going through all that the grammar allows.
type reader struct {
	lines  map[string][]*line
	tokens []lex.Token
	metas  bool
	known  map[span][]*node
}

// span is something that the tokens from one on up to another one may be.
type span struct {
	name     string
	from, to int
}

// lines has the lines of the grammar for each name.
var lines = sync.OnceValue(func() map[string][]*line {
	l := map[string][]*line{}
	for s := range strings.Lines(strings.TrimPrefix(grammar, "\n")) {
		w := strings.Fields(s)
		l[w[0]] = append(l[w[0]], &line{w[0], w[2:]})
	}
	return l
})

// newReader is the reader of tokens, the last of which is the end.
func newReader(tokens []lex.Token, metas bool) *reader {
	return &reader{lines: lines(), tokens: tokens, metas: metas, known: map[span][]*node{}}
}

// is reports whether a token is what the grammar asks for.
func (r *reader) is(t lex.Token, asked string) bool {
	meta := r.metas && t.Kind == lex.TokMeta
	switch asked {
	case "variable":
		return syntax.Variable(t.Text)
	case "function":
		return syntax.Function(t.Text)
	case "predicate":
		return syntax.Predicate(t.Text)
	case "meta":
		return meta && t.Text[1] <= 'Z'
	case "metaterm":
		return meta && t.Text[1] >= 'a'
	}
	return t.Kind != lex.TokEnd && asked == `"`+t.Text+`"`
}

// item is a line of the grammar that has been gone through up to a word, and the token at which it began.
type item struct {
	line        *line
	words, from int
}

// next is the word that comes next in the line of an item; empty if it has ended.
func (i item) next() string {
	if i.words == len(i.line.body) {
		return ""
	}
	return i.line.body[i.words]
}

// over is an item behind its next word.
func (i item) over() item { return item{i.line, i.words + 1, i.from} }

// items are the lines in which what is ahead of the first token, of the second one, and so on, can be (Earley's algorithm).
func (r *reader) items(start string) [][]item {
	sets := [][]item{r.close(nil, r.begun(start, 0), 0)}
	for k, t := range r.tokens[:len(r.tokens)-1] {
		var set []item
		for _, i := range sets[k] {
			if r.is(t, i.next()) {
				set = append(set, i.over())
			}
		}
		sets = append(sets, r.close(sets, set, k+1))
	}
	return sets
}

// begun are the lines of a name.
func (r *reader) begun(name string, from int) []item {
	var set []item
	for _, l := range r.lines[name] {
		set = append(set, item{l, 0, from})
	}
	return set
}

// close adds to the items ahead of token k all lines that begin there, and all that go on behind lines that have ended there.
func (r *reader) close(sets [][]item, set []item, k int) []item {
	seen := map[item]bool{}
	var all []item
	for len(set) > 0 {
		i := set[0]
		set = set[1:]
		if seen[i] {
			continue
		}
		seen[i] = true
		all = append(all, i)
		if i.next() != "" {
			set = append(set, r.begun(i.next(), k)...)
		} else if i.from < k {
			for _, back := range sets[i.from] {
				if back.next() == i.line.name {
					set = append(set, back.over())
				}
			}
		}
	}
	return all
}

// nests are the nests of each token, by a list of those that are open; they count as long as the text can be what the grammar asks for.
func nests(tokens []lex.Token) []int {
	var open []string
	var counts []int
	ends := func(signs ...string) {
		for len(open) > 0 && slices.Contains(signs, open[len(open)-1]) {
			open = open[:len(open)-1]
		}
	}
	for _, t := range tokens {
		counts = append(counts, len(open))
		switch t.Text {
		case "~", "[]", "<>", "next", "always", "all", "some":
			open = append(open, "unary")
		case "(":
			open = append(open, "(")
		case ")":
			ends("unary", "until", "->")
			if len(open) > 0 {
				open = open[:len(open)-1]
			}
		case "&", "|":
			ends("unary")
		case "until":
			ends("unary")
			open = append(open, "until")
		case "->":
			ends("unary", "until")
			open = append(open, "->")
		case "<->", ",":
			ends("unary", "until", "->")
		}
	}
	return counts
}

// wrong is the place and the error of the first token that cannot stand there or is nested too deep; 0 and OK if there is none.
func (r *reader) wrong(start string) (int, api.Errno) {
	sets, counts := r.items(start), nests(r.tokens)
	for k, t := range r.tokens {
		stands, ended := t.Kind == lex.TokEnd, false
		for _, i := range sets[k] {
			if (i.next() == "unary" || i.next() == "term") && counts[k] > 120 {
				return t.At, parse.ErrDeep
			}
			ended = ended || i.line.name == start && i.next() == "" && i.from == 0
			stands = stands || r.is(t, i.next())
		}
		if !stands || t.Kind == lex.TokEnd && !ended {
			return t.At, parse.ErrSyntax
		}
	}
	return 0, api.OK
}

// ways are all ways in which some tokens are something.
func (r *reader) ways(s span) []*node {
	if l, found := r.known[s]; found {
		return l
	}
	var l []*node
	if ways := r.lines[s.name]; ways != nil {
		for _, way := range ways {
			for _, parts := range r.divide(way.body, s.from, s.to) {
				l = append(l, &node{line: way, parts: parts})
			}
		}
	} else if s.to == s.from+1 && r.is(r.tokens[s.from], s.name) {
		l = append(l, &node{text: r.tokens[s.from].Text})
	}
	r.known[s] = l
	return l
}

// divide is all ways in which tokens are the words of a line, one behind the other.
func (r *reader) divide(body []string, from, to int) [][]*node {
	if len(body) == 0 || len(body) > to-from {
		if len(body) == 0 && from == to {
			return [][]*node{nil}
		}
		return nil
	}
	var all [][]*node
	for mid := from + 1; mid <= to-len(body)+1; mid++ {
		if len(body) == 1 {
			mid = to
		}
		first := r.ways(span{body[0], from, mid})
		if len(first) == 0 {
			continue
		}
		for _, rest := range r.divide(body[1:], mid, to) {
			for _, n := range first {
				all = append(all, append([]*node{n}, rest...))
			}
		}
	}
	return all
}

// binaries are the names that show writes for the signs between two formulas.
func binaries() map[string]string {
	return map[string]string{"&": "and", "|": "or", "until": "until", "->": "imp", "<->": "iff"}
}

// meaning is what show writes for what a node makes.
func meaning(n *node) string {
	if n.line == nil {
		return n.text
	}
	body := strings.Join(n.line.body, " ")
	var parts []string
	for _, p := range n.parts {
		parts = append(parts, meaning(p))
	}
	switch {
	case body == "":
		return ""
	case body == `list "," formula` || body == `terms "," term`:
		return parts[0] + " " + parts[2]
	case body == `"(" formula ")"`:
		return parts[1]
	case body == `meta "[" metaterm "/" variable "]"`:
		return "inst:" + parts[0] + "[$" + parts[4] + " $" + parts[2] + "]"
	case body == "meta":
		return "meta:" + parts[0]
	case n.line.name == "term" && (body == "variable" || body == "metaterm"):
		return "$" + parts[0]
	case len(parts) == 1:
		return parts[0]
	case len(parts) == 4:
		return parts[0] + "[" + parts[2] + "]"
	case n.line.name == "unary" && len(parts) == 3:
		return parts[0] + ":" + parts[1] + "{" + parts[2] + "}"
	case n.line.name == "unary":
		names := map[string]string{"~": "not", "[]": "box", "<>": "dia", "next": "next", "always": "always"}
		return names[parts[0]] + "{" + parts[1] + "}"
	}
	return binaries()[parts[1]] + "{" + parts[0] + " " + parts[2] + "}"
}

// check compares what a function returns for a text with all that the grammar allows; the text is small enough that nothing is too long.
func (r *reader) check(t *testing.T, s, start, got string, at int, e api.Errno) {
	t.Helper()
	place, want := r.wrong(start)
	if at != place || e != want {
		t.Fatalf("%q as %s: %d, %d; want %d, %d", s, start, at, e, place, want)
	}
	ways := r.ways(span{start, 0, len(r.tokens) - 1})
	if len(ways) > 1 || (len(ways) == 1) != (e == api.OK) {
		t.Fatalf("%q as %s: %d ways, %d", s, start, len(ways), e)
	}
	if e == api.OK && got != meaning(ways[0]) {
		t.Fatalf("%q as %s: %s; want %s", s, start, got, meaning(ways[0]))
	}
}

// checkAll compares what all functions return for a text with all that the grammar allows.
func checkAll(t *testing.T, s string) {
	t.Helper()
	tokens, _, _ := lex.Lex(s)
	with, without := newReader(tokens, true), newReader(tokens, false)
	f, at, e := parse.Schema(s)
	with.check(t, s, "formula", show(f), at, e)
	f, at, e = parse.Form(s)
	without.check(t, s, "formula", show(f), at, e)
	a, at, e := parse.Term(s)
	without.check(t, s, "term", showTerm(a), at, e)
	l, at, e := parse.Forms(s)
	without.check(t, s, "forms", showForms(l), at, e)
}

// words are tokens that stand for all others of their sort.
func words() []string {
	return []string{"P", "a", "x", "?A", "?t", "(", ")", ",", "~", "&", "->", "until", "<->", "all", "false", "[", "/", "]", "[]", "|", "<>", "next", "always", "some"}
}

// P5.1 to P5.4: all texts of up to 3 tokens, and those of 4 of the most important tokens: what they mean, or the first token that cannot stand there; there is one way at most.
func TestAllShortTexts(t *testing.T) {
	checkAll(t, "")
	for _, a := range words() {
		checkAll(t, a)
		for _, b := range words() {
			checkAll(t, a+" "+b)
			for _, c := range words()[:15] {
				checkAll(t, a+" "+b+" "+c)
			}
		}
	}
}

// P5.1 to P5.4: drawn texts, most of which are near to right ones.
func TestDrawnTexts(t *testing.T) {
	r := rand.New(rand.NewPCG(5, 1))
	for i := range 4000 {
		l := strings.Fields(drawnText(r, 1+i%4, i%2 == 0))
		for len(l) > 24 {
			l = l[:len(l)-r.IntN(5)]
		}
		for range r.IntN(3) {
			at := r.IntN(len(l) + 1)
			switch w := words()[r.IntN(len(words()))]; r.IntN(3) {
			case 0:
				l = slices.Insert(l, at, w)
			case 1:
				l = slices.Delete(l, max(at-1, 0), max(at, min(1, len(l))))
			default:
				l = append(l[:min(at, len(l))], append([]string{w}, l[min(at+1, len(l)):]...)...)
			}
		}
		checkAll(t, strings.Join(l, " "))
	}
}

// drawnText is a text that is mostly a formula: each name of the grammar is replaced by one of its lines.
func drawnText(r *rand.Rand, size int, metas bool) string {
	var write func(name string, size int) string
	write = func(name string, size int) string {
		ways := lines()[name]
		if ways == nil {
			return drawnWord(r, name, metas)
		}
		body := ways[r.IntN(len(ways))].body
		if size <= 0 {
			body = ways[0].body
			if name == "unary" {
				body = []string{"basic"}
			}
			if name == "basic" {
				body = []string{"predicate"}
			}
		}
		var parts []string
		for _, w := range body {
			next := size
			if len(body) > 1 {
				next--
			}
			parts = append(parts, write(w, next))
		}
		return strings.Join(parts, " ")
	}
	return write([]string{"formula", "formula", "list", "term"}[r.IntN(4)], size)
}

// drawnWord is a token of a sort.
func drawnWord(r *rand.Rand, sort string, metas bool) string {
	l := map[string][]string{"variable": {"x", "y2"}, "function": {"a", "g1B"}, "predicate": {"P", "Q", "Even"}, "meta": {"?A", "?B1"}, "metaterm": {"?t", "?s"}}[sort]
	if !metas && sort == "meta" {
		l = []string{"P"}
	}
	if l == nil {
		return strings.Trim(sort, `"`)
	}
	return l[r.IntN(len(l))]
}

// deepText is a drawn text that nests about as deep as is allowed.
func deepText(r *rand.Rand, sorts int) string {
	ahead := []string{"(", "(", "(", "~", "[]", "<>", "next", "always", "all x", "some y", "P ->", "P until", "P &", "P |", "P <->"}
	behind := append(words(), ")", ")", ")", ")", "P", "P", "(", "~", "->", "until", "P ( a", "P (")
	var l []string
	for range 90 + r.IntN(60) {
		l = append(l, ahead[r.IntN(sorts)])
	}
	for range r.IntN(12) {
		l = append(l, behind[r.IntN(len(behind))])
	}
	return strings.Join(l, " ")
}

// P5.1 to P5.3: drawn texts that nest about as deep as is allowed; what they mean would be too long, but their errors are known.
func TestDrawnDeepTexts(t *testing.T) {
	r := rand.New(rand.NewPCG(5, 2))
	for i := range 400 {
		s := deepText(r, 4+i%12)
		tokens, _, _ := lex.Lex(s)
		with, without := newReader(tokens, true), newReader(tokens, false)
		_, at, e := parse.Schema(s)
		with.checkError(t, s, "formula", at, e)
		_, at, e = parse.Form(s)
		without.checkError(t, s, "formula", at, e)
		_, at, e = parse.Forms(s)
		without.checkError(t, s, "forms", at, e)
	}
}

// checkError compares the error of a text that may be too long with the one that the grammar tells.
func (r *reader) checkError(t *testing.T, s, start string, at int, e api.Errno) {
	t.Helper()
	place, want := r.wrong(start)
	if want == api.OK && e == api.ErrLong {
		want = e
	}
	if at != place || e != want {
		t.Fatalf("%q as %s: %d, %d; want %d, %d", s, start, at, e, place, want)
	}
}

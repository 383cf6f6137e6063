package lex_test

import (
	"math/rand/v2"
	"regexp"
	"slices"
	"strings"
	"testing"

	"lyceum/api"
	"lyceum/lex"
)

// reference divides texts as the chapter says, by regular expressions.
type reference struct {
	blanks, token                 *regexp.Regexp
	word, name, variable, metavar *regexp.Regexp
}

func newReference() reference {
	return reference{
		blanks:   regexp.MustCompile(`^[ \t\n\r]*`),
		token:    regexp.MustCompile(`^(?:[a-zA-Z][a-zA-Z0-9]*|\?[a-zA-Z0-9]*|<->|->|\[\]|<>|[(),~&|/\[\]])`),
		word:     regexp.MustCompile(`^(?:all|some|false|next|always|until)$`),
		name:     regexp.MustCompile(`^[a-tA-Z][a-zA-Z0-9]{0,15}$`),
		variable: regexp.MustCompile(`^[u-z][0-9]{0,15}$`),
		metavar:  regexp.MustCompile(`^\?[a-tA-Z][a-zA-Z0-9]{0,14}$`),
	}
}

// kind is the kind of a run, a mark or a sign; 0 if it is none.
func (r reference) kind(s string) uint8 {
	if r.word.MatchString(s) {
		return lex.TokWord
	}
	if r.name.MatchString(s) || r.variable.MatchString(s) {
		return lex.TokName
	}
	if r.metavar.MatchString(s) && !r.word.MatchString(s[1:]) {
		return lex.TokMeta
	}
	if strings.ContainsAny(s[:1], "(),~&|/-<[]") {
		return lex.TokSign
	}
	return 0
}

// lex is what Lex has to return for texts that are not too long.
func (r reference) lex(s string) ([]lex.Token, int, api.Errno) {
	var l []lex.Token
	for at := 0; ; {
		at += len(r.blanks.FindString(s[at:]))
		if at == len(s) {
			return append(l, lex.Token{Kind: lex.TokEnd, At: at}), 0, api.OK
		}
		text := r.token.FindString(s[at:])
		if text == "" {
			return nil, at, lex.ErrChar
		}
		kind := r.kind(text)
		if kind == 0 {
			return nil, at, lex.ErrName
		}
		l = append(l, lex.Token{Kind: kind, Text: text, At: at})
		at += len(text)
	}
}

// check compares what Lex returns with the reference.
func (r reference) check(t *testing.T, s string) {
	t.Helper()
	l, at, e := lex.Lex(s)
	if m, place, want := r.lex(s); !slices.Equal(l, m) || at != place || e != want {
		t.Fatalf("Lex(%q) = %v, %d, %d; want %v, %d, %d", s, l, at, e, m, place, want)
	}
}

// P4.1: all short texts of some bytes.
func TestAllShortTexts(t *testing.T) {
	r := newReference()
	texts := []string{""}
	for range 4 {
		var longer []string
		for _, s := range texts {
			for _, c := range "<->[](?xfP1 \n_" {
				longer = append(longer, s+string(c))
			}
		}
		texts = longer
		for _, s := range texts {
			r.check(t, s)
		}
	}
}

// pieces is what drawn texts are made of.
func pieces() []string {
	return []string{
		" ", "  ", "\t", "\n", "\r\n", "(", ")", ",", "~", "&", "|", "/", "->", "<->", "[]", "<>", "[", "]",
		"all", "some", "false", "next", "always", "until", "x", "y1", "z20", "a", "f", "b2C", "P", "Q1", "Even", "?A", "?t", "?B2", "Until", "all1", "P23456789012345Q", "?P2345678901234Q",
	}
}

// odd is what is no token alone.
func odd() []string {
	return []string{"-", "<", ">", "<-", "?", "1", "_", "xy", "P23456789012345QR", "?all", "\x00", "\xff", "\u00e9"}
}

// drawn is a text of some pieces.
func drawn(r *rand.Rand, l []string, n int) string {
	var b strings.Builder
	for range n {
		b.WriteString(l[r.IntN(len(l))])
	}
	return b.String()
}

// P4.1: drawn texts, with and without what is no token.
func TestDrawnTexts(t *testing.T) {
	ref, r := newReference(), rand.New(rand.NewPCG(4, 1))
	wrong := append(slices.Repeat(pieces(), 4), odd()...)
	for i := range 20000 {
		ref.check(t, drawn(r, pieces(), i%12))
		ref.check(t, drawn(r, wrong, i%12))
	}
	for range 50 {
		ref.check(t, drawn(r, pieces()[:20], 4000))
	}
}

// placeless is tokens without their places.
func placeless(l []lex.Token) []lex.Token {
	m := slices.Clone(l)
	for i := range m {
		m[i].At = 0
	}
	return m
}

// someTexts draws texts without errors.
func someTexts(r *rand.Rand) []string {
	var l []string
	ref := newReference()
	for i := 0; len(l) < 5000; i++ {
		s := drawn(r, pieces(), i%16)
		if _, _, e := ref.lex(s); e == api.OK {
			l = append(l, s)
		}
	}
	return l
}

// P4.3: the text of tokens has the same tokens, but for their places; and so it is its own text of tokens.
func TestJoinedTexts(t *testing.T) {
	for _, s := range someTexts(rand.New(rand.NewPCG(4, 2))) {
		l := mustLex(t, s)
		joined := lex.Join(l)
		m := mustLex(t, joined)
		if !slices.Equal(placeless(l), placeless(m)) || lex.Join(m) != joined {
			t.Fatalf("%q has the tokens %v, but %q has %v", s, l, joined, m)
		}
	}
}

// spread is the Texts of tokens with drawn blanks between them, ahead of them and behind them; none, now and then, where the tokens stand without any in their text.
func spread(r *rand.Rand, l []lex.Token) string {
	var b strings.Builder
	end := 0
	for _, t := range l {
		n := r.IntN(4)
		if t.At > end && t.Kind != lex.TokEnd {
			n++
		}
		b.WriteString(drawn(r, []string{" ", "\t", "\n", "\r"}, n))
		b.WriteString(t.Text)
		end = t.At + len(t.Text)
	}
	return b.String()
}

// P4.3: texts that differ in blanks between tokens have the same tokens, but for their places.
func TestOtherBlanks(t *testing.T) {
	r := rand.New(rand.NewPCG(4, 3))
	for _, s := range someTexts(r) {
		l := mustLex(t, s)
		for range 3 {
			other := spread(r, l)
			if m := mustLex(t, other); !slices.Equal(placeless(l), placeless(m)) {
				t.Fatalf("%q has the tokens %v, but %q has %v", s, l, other, m)
			}
		}
	}
}

// P4.3: every token stands in the text at its place, and only blanks stand between two; the end is at the length of the text.
func TestPlaces(t *testing.T) {
	for _, s := range someTexts(rand.New(rand.NewPCG(4, 4))) {
		l := mustLex(t, s)
		end := 0
		for _, k := range l {
			if k.At < end || strings.Trim(s[end:k.At], " \t\n\r") != "" || !strings.HasPrefix(s[k.At:], k.Text) {
				t.Fatalf("%q has the token %v", s, k)
			}
			end = k.At + len(k.Text)
		}
		if last := l[len(l)-1]; end != len(s) || last.Kind != lex.TokEnd || last.Text != "" {
			t.Fatalf("%q ends with the token %v", s, last)
		}
	}
}

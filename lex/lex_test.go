package lex_test

import (
	"go/parser"
	"go/token"
	"path/filepath"
	"slices"
	"strconv"
	"strings"
	"testing"

	"lyceum/api"
	"lyceum/lex"
)

// toks makes tokens from a text such as "4 name x1, 7 sign ->, 9 end": places, kinds and Texts, separated by blanks; commas end tokens ("comma" is the sign).
func toks(s string) []lex.Token {
	var l []lex.Token
	for row := range strings.SplitSeq(s, ",") {
		w := strings.Fields(row)
		at, err := strconv.Atoi(w[0])
		if err != nil {
			panic(err)
		}
		t := lex.Token{At: at, Kind: uint8(1 + slices.Index([]string{"name", "meta", "word", "sign", "end"}, w[1]))}
		if len(w) > 2 {
			t.Text = strings.Replace(w[2], "comma", ",", 1)
		}
		l = append(l, t)
	}
	return l
}

// lexes checks that a text has these tokens.
func lexes(t *testing.T, s string, want []lex.Token) {
	t.Helper()
	if l, at, e := lex.Lex(s); !slices.Equal(l, want) || at != 0 || e != api.OK {
		t.Errorf("Lex(%q) = %v, %d, %d; want %v", s, l, at, e, want)
	}
}

// fails checks that a text has no tokens, but an error at a place.
func fails(t *testing.T, s string, place int, want api.Errno) {
	t.Helper()
	if l, at, e := lex.Lex(s); len(l) != 0 || at != place || e != want {
		t.Errorf("Lex(%.40q) = %d tokens, %d, %d; want none, %d, %d", s, len(l), at, e, place, want)
	}
}

// mustLex is the tokens of a text that has no error.
func mustLex(t *testing.T, s string) []lex.Token {
	t.Helper()
	l, at, e := lex.Lex(s)
	if at != 0 || e != api.OK {
		t.Fatalf("Lex(%q) has the error %d at %d", s, e, at)
	}
	return l
}

// The chapter tells the numbers of the kinds and of the errors.
func TestConstants(t *testing.T) {
	if got := [...]uint8{lex.TokName, lex.TokMeta, lex.TokWord, lex.TokSign, lex.TokEnd}; got != [...]uint8{1, 2, 3, 4, 5} {
		t.Error(got)
	}
	if lex.ErrChar != 40 || lex.ErrName != 41 {
		t.Error(lex.ErrChar, lex.ErrName)
	}
}

// P4.1: the examples of the chapter.
func TestExamples(t *testing.T) {
	lexes(t, "all x (P(x)->~Q)", toks("0 word all, 4 name x, 6 sign (, 7 name P, 8 sign (, 9 name x, 10 sign ), 11 sign ->, 13 sign ~, 14 name Q, 15 sign ), 16 end"))
	lexes(t, "[]P<->[ ]", toks("0 sign [], 2 name P, 3 sign <->, 6 sign [, 8 sign ], 9 end"))
	lexes(t, "?A[?t/x]", toks("0 meta ?A, 2 sign [, 3 meta ?t, 5 sign /, 6 name x, 7 sign ], 8 end"))
	fails(t, "P & xy", 4, lex.ErrName)
	fails(t, "P - Q", 2, lex.ErrChar)
	fails(t, "<", 0, lex.ErrChar)
	fails(t, "?", 0, lex.ErrName)
	fails(t, "7", 0, lex.ErrChar)
}

// P4.1: a text that is one token of each sort, and the end.
func TestOneToken(t *testing.T) {
	for kind, l := range map[uint8][]string{
		lex.TokName: {"x", "u", "z", "x10", "u0", "w00", "a", "t", "s9Z", "f2G", "next1", "al", "alls", "nexT", "falsE", "A", "Z", "X", "P1", "Even2", "All", "Until", "FALSE", "aa", "Pxyz", "x23456789012345", "x234567890123456", "a23456789012345b", "P23456789012345Q"},
		lex.TokMeta: {"?A", "?t", "?a", "?Z", "?P9", "?next1", "?All", "?Until", "?a1B2", "?P2345678901234Q", "?a2345678901234b"},
		lex.TokWord: {"all", "some", "false", "next", "always", "until"},
		lex.TokSign: {"(", ")", ",", "~", "&", "|", "/", "->", "<->", "[]", "<>", "[", "]"},
	} {
		for _, s := range l {
			lexes(t, s, []lex.Token{{Kind: kind, Text: s}, {Kind: lex.TokEnd, At: len(s)}})
		}
	}
}

// P4.1: runs and marks that are no names; the place is that of their first byte.
func TestNoNames(t *testing.T) {
	for _, s := range []string{
		"xy", "ux", "until1", "untils", "unti", "xX", "x1y", "zero", "variable", "x2345678901234567", "a23456789012345bc", "P23456789012345QR", strings.Repeat("a", 100),
		"?", "?x", "?u1", "?1", "?1A", "?0", "?all", "?some", "?false", "?next", "?always", "?until", "?P2345678901234QR", "?a2345678901234bc", "?" + strings.Repeat("A", 100),
	} {
		for _, ahead := range []string{"", " ", "\t\r\n", "P ", "~", "all ", "?A,", "(a)", "<->"} {
			for _, behind := range []string{"", " ", "(", " P", "?", "-", "\x80"} {
				fails(t, ahead+s+behind, len(ahead), lex.ErrName)
			}
		}
	}
	fails(t, "??A", 0, lex.ErrName)
	fails(t, "? A", 0, lex.ErrName)
	fails(t, "?A?", 2, lex.ErrName)
	fails(t, "P?", 1, lex.ErrName)
}

// P4.1: signs that are not there as a whole, and other bytes; the place is that of the byte.
func TestNoTokens(t *testing.T) {
	for _, s := range []string{"-", "--", "- >", "-)", "<", "<-", "<-)", "<- >", "<<>", "< >", "<]", "<[]", ">", ">-", "0", "9a", "1", "_", ".", ":", ";", "=", "!", "\"", "'", "`", "\\", "{", "}", "+", "*", "^", "%", "$", "#", "@", "\x00", "\x7f", "\x80", "\xff", "\v", "\f", "\u00a0", "\u00e9", "\u2192", "\ufeff"} {
		for _, ahead := range []string{"", " ", "\t\r\n", "P ", "~", "all ", "?A,", "(a)", "<->"} {
			for _, behind := range []string{"", " ", "(", " P", "?"} {
				fails(t, ahead+s+behind, len(ahead), lex.ErrChar)
			}
		}
	}
	fails(t, "P_", 1, lex.ErrChar)
	fails(t, "P\u00e9", 1, lex.ErrChar)
	fails(t, "?A_", 2, lex.ErrChar)
	fails(t, "->-", 2, lex.ErrChar)
	fails(t, "<>>", 2, lex.ErrChar)
}

// P4.1: of several errors, the one that is more to the left is told.
func TestFirstError(t *testing.T) {
	fails(t, "P - xy", 2, lex.ErrChar)
	fails(t, "P xy -", 2, lex.ErrName)
	fails(t, "- xy", 0, lex.ErrChar)
	fails(t, "xy-", 0, lex.ErrName)
	fails(t, "1xy", 0, lex.ErrChar)
	fails(t, "a ? 1", 2, lex.ErrName)
	fails(t, "a 1 ?", 2, lex.ErrChar)
}

// P4.1: the longest sign stands, whatever is behind it.
func TestLongestSigns(t *testing.T) {
	lexes(t, "<-><>", toks("0 sign <->, 3 sign <>, 5 end"))
	lexes(t, "<><->->", toks("0 sign <>, 2 sign <->, 5 sign ->, 7 end"))
	lexes(t, "[[]]", toks("0 sign [, 1 sign [], 3 sign ], 4 end"))
	lexes(t, "[][", toks("0 sign [], 2 sign [, 3 end"))
	lexes(t, "][]", toks("0 sign ], 1 sign [], 3 end"))
	lexes(t, "[\n]", toks("0 sign [, 2 sign ], 3 end"))
	lexes(t, "->->", toks("0 sign ->, 2 sign ->, 4 end"))
	lexes(t, "~~&&||//,(())", toks("0 sign ~, 1 sign ~, 2 sign &, 3 sign &, 4 sign |, 5 sign |, 6 sign /, 7 sign /, 8 sign comma, 9 sign (, 10 sign (, 11 sign ), 12 sign ), 13 end"))
}

// P4.1: runs and marks go on as far as letters and digits do, and no further.
func TestRunsAndMarks(t *testing.T) {
	lexes(t, "all1 all x1", toks("0 name all1, 5 word all, 9 name x1, 11 end"))
	lexes(t, "allx", toks("0 name allx, 4 end"))
	lexes(t, "all?A", toks("0 word all, 3 meta ?A, 5 end"))
	lexes(t, "?A?t", toks("0 meta ?A, 2 meta ?t, 4 end"))
	lexes(t, "x?t", toks("0 name x, 1 meta ?t, 3 end"))
	lexes(t, "nextP", toks("0 name nextP, 5 end"))
	lexes(t, "next~P", toks("0 word next, 4 sign ~, 5 name P, 6 end"))
	lexes(t, "x2 x", toks("0 name x2, 3 name x, 4 end"))
	fails(t, "x2 x 2", 5, lex.ErrChar)
}

// P4.1: blanks stand between tokens, ahead of the first one and behind the last one; the end is behind them.
func TestBlanks(t *testing.T) {
	lexes(t, "", toks("0 end"))
	lexes(t, " ", toks("1 end"))
	lexes(t, " \t\n\r", toks("4 end"))
	lexes(t, "\r\n\tP \t& \n\rQ  ", toks("3 name P, 6 sign &, 10 name Q, 13 end"))
}

// P4.1: each byte as the first one of a text, and behind a run, a mark, or a blank.
func TestEachByte(t *testing.T) {
	const (
		digits = "0123456789"
		alone  = "abcdefghijklmnopqrstuvwxyzABCDEFGHIJKLMNOPQRSTUVWXYZ(),~&|/[]"
	)
	for b := range 256 {
		c := string([]byte{byte(b)})
		letter, sign := strings.Contains(alone[:52], c), strings.Contains(alone[52:], c)
		for _, ahead := range []string{"", "f", "?f", "f ", "?f\n", "("} {
			joined := ahead == "f" || ahead == "?f"
			s := ahead + c
			l, at, e := lex.Lex(s)
			switch {
			case joined && (letter || strings.Contains(digits, c)):
				lexes(t, s, []lex.Token{{Kind: uint8(len(ahead)), Text: s}, {Kind: lex.TokEnd, At: len(s)}})
			case strings.Contains(" \t\n\r", c):
				if e != api.OK || l[len(l)-1] != (lex.Token{Kind: lex.TokEnd, At: len(s)}) {
					t.Errorf("%q: %v, %d, %d", s, l, at, e)
				}
			case letter || sign:
				kind := lex.TokName
				if sign {
					kind = lex.TokSign
				}
				if e != api.OK || !slices.Equal(l[len(l)-2:], []lex.Token{{Kind: kind, Text: c, At: len(ahead)}, {Kind: lex.TokEnd, At: len(s)}}) {
					t.Errorf("%q: %v, %d, %d", s, l, at, e)
				}
			case c == "?":
				fails(t, s, len(ahead), lex.ErrName)
			default:
				fails(t, s, len(ahead), lex.ErrChar)
			}
		}
	}
}

// P4.1: texts have at most 16384 bytes; that they have more is told ahead of all else.
func TestLongTexts(t *testing.T) {
	const most = 16384
	l := mustLex(t, strings.Repeat("(", most))
	if len(l) != most+1 || l[most-1] != (lex.Token{Kind: lex.TokSign, Text: "(", At: most - 1}) || l[most] != (lex.Token{Kind: lex.TokEnd, At: most}) {
		t.Error(len(l))
	}
	lexes(t, strings.Repeat(" ", most), []lex.Token{{Kind: lex.TokEnd, At: most}})
	fails(t, strings.Repeat("(", most-1)+"-", most-1, lex.ErrChar)
	fails(t, strings.Repeat(" ", most-1)+"?", most-1, lex.ErrName)
	fails(t, strings.Repeat("a", most), 0, lex.ErrName)
	fails(t, strings.Repeat("?", most), 0, lex.ErrName)
	for _, s := range []string{"(", " ", "a", "-", "?", "\xff"} {
		fails(t, strings.Repeat(s, most+1), 0, api.ErrLong)
	}
	fails(t, strings.Repeat("P", 1<<20), 0, api.ErrLong)
}

// P4.2: the Texts of tokens, with one space between two; no token is left out but ends.
func TestJoin(t *testing.T) {
	for _, c := range []struct {
		l    []lex.Token
		want string
	}{
		{nil, ""},
		{[]lex.Token{}, ""},
		{toks("0 end"), ""},
		{toks("0 end, 0 end"), ""},
		{toks("0 name P"), "P"},
		{toks("0 name P, 1 end"), "P"},
		{toks("0 word all, 4 name x, 6 sign (, 7 name P, 8 sign (, 9 name x, 10 sign ), 11 sign ->, 13 sign ~, 14 name Q, 15 sign ), 16 end"), "all x ( P ( x ) -> ~ Q )"},
		{toks("0 sign [, 1 sign ]"), "[ ]"},
		{toks("0 end, 0 name P, 0 end, 0 name Q, 0 end"), "P Q"},
		{[]lex.Token{{Kind: lex.TokEnd, Text: "P"}, {Kind: lex.TokName, Text: "Q"}, {Kind: lex.TokEnd, Text: "R"}}, "Q"},
		{[]lex.Token{{Kind: lex.TokName}}, ""},
		{[]lex.Token{{Kind: lex.TokName}, {Kind: lex.TokSign}}, " "},
		{[]lex.Token{{}, {Kind: lex.TokEnd}, {}, {}}, "  "},
		{[]lex.Token{{Kind: lex.TokName, Text: "P"}, {Kind: lex.TokMeta}, {Kind: lex.TokWord, Text: "Q"}}, "P  Q"},
		{[]lex.Token{{Kind: 0, Text: " - "}, {Kind: 6, Text: "\xff", At: -3}, {Kind: 255, Text: "P Q"}, {Kind: lex.TokSign, Text: "xy"}}, " -  \xff P Q xy"},
	} {
		old := slices.Clone(c.l)
		if got := lex.Join(c.l); got != c.want || !slices.Equal(c.l, old) {
			t.Errorf("Join(%v) = %q, want %q", c.l, got, c.want)
		}
	}
	if got := lex.Join(slices.Repeat(toks("0 name P, 0 end"), 1<<16)); got != strings.Repeat("P ", 1<<16)[:1<<17-1] {
		t.Error(len(got))
	}
}

// P4.2: the six words, and what is like them.
func TestWord(t *testing.T) {
	for _, s := range []string{"all", "some", "false", "next", "always", "until"} {
		if !lex.Word(s) {
			t.Error(s, "is a word")
		}
		for _, other := range []string{s[1:], s[:len(s)-1], s + "1", s + " ", " " + s, "?" + s, s + s, s + "\x00", strings.ToUpper(s), strings.ToUpper(s[:1]) + s[1:]} {
			if lex.Word(other) {
				t.Errorf("%q is no word", other)
			}
		}
	}
	for _, s := range []string{"", "true", "not", "x", "P", "?A", "(", "exists", "eventually"} {
		if lex.Word(s) {
			t.Errorf("%q is no word", s)
		}
	}
}

// R3: a result shares no memory with another one.
func TestMemory(t *testing.T) {
	const s = "all x (P(x)->~Q)"
	a, b := mustLex(t, s), mustLex(t, s)
	clear(a[:cap(a)])
	lexes(t, s, b)
}

// The chapter lets the package use no layer but syntax.
func TestImports(t *testing.T) {
	files, err := filepath.Glob("*.go")
	if err != nil || len(files) == 0 {
		t.Fatal(files, err)
	}
	for _, file := range files {
		if strings.HasSuffix(file, "_test.go") {
			continue
		}
		f, err := parser.ParseFile(token.NewFileSet(), file, nil, parser.ImportsOnly)
		if err != nil {
			t.Fatal(err)
		}
		for _, i := range f.Imports {
			path := i.Path.Value
			if strings.HasPrefix(path, `"lyceum`) && path != `"lyceum/api"` && path != `"lyceum/syntax"` {
				t.Error(file, "imports", path)
			}
		}
	}
}

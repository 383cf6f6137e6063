package lex

// scan.go: which tokens stand in a text, and where.

import (
	"iter"
	"strings"

	"lyceum/api"
	"lyceum/syntax"
)

// place is how far a text has been read.
type place struct {
	at int // how many bytes are ahead of what comes next
}

// scanner reads a text from the left to the right.
type scanner struct {
	place
	text    string
	readers [256]reader
}

// reader tells what token a text begins with: its kind, and how many bytes it has; or why it begins with none.
type reader func(text string) (kind uint8, size int, e api.Errno)

// tokens yields the tokens of a text with api.OK, the end as the last one; if something else stands there, the last one has only its place, and comes with the error.
func tokens(text string) iter.Seq2[Token, api.Errno] {
	return func(yield func(t Token, e api.Errno) bool) {
		s := scanner{text: text, readers: readers()}
		for {
			s.skipBlanks()
			t, e := s.next()
			if !yield(t, e) || e != api.OK || t.Kind == TokEnd {
				return
			}
		}
	}
}

// skipBlanks moves the scanner behind all blanks at its place.
func (s *scanner) skipBlanks() {
	for s.at < len(s.text) && blank(s.text[s.at]) {
		s.at++
	}
}

// next is the token at the place of the scanner, which moves behind it; or a token that has only its place, and the error.
func (s *scanner) next() (Token, api.Errno) {
	rest := s.text[s.at:]
	if rest == "" {
		return Token{Kind: TokEnd, At: s.at}, api.OK
	}
	read := s.readers[rest[0]]
	if read == nil {
		return Token{At: s.at}, ErrChar
	}
	kind, size, e := read(rest)
	t := Token{Kind: kind, Text: rest[:size], At: s.at}
	s.at += size
	return t, e
}

// readers is, for each byte, the reader of the tokens that begin with it; nil if none does.
func readers() [256]reader {
	var table [256]reader
	run := named(kindOfRun)
	for b := range len(table) {
		if letter(byte(b)) {
			table[b] = run
		}
	}
	table['?'] = named(kindOfMark)
	for _, signs := range [...][]string{{"("}, {")"}, {","}, {"~"}, {"&"}, {"|"}, {"/"}, {"]"}, {"->"}, {"<->", "<>"}, {"[]", "["}} {
		table[signs[0][0]] = longest(signs)
	}
	return table
}

// named is the reader of a byte and all letters and digits behind it, whose kind is told by a function; 0 is none.
func named(kindOf func(s string) uint8) reader {
	return func(text string) (uint8, int, api.Errno) {
		size := 1
		for size < len(text) && (letter(text[size]) || digit(text[size])) {
			size++
		}
		kind := kindOf(text[:size])
		if kind == 0 {
			return 0, 0, ErrName
		}
		return kind, size, api.OK
	}
}

// longest is the reader of the first of some signs that stands there; so longer ones need to come ahead of those that they begin with.
func longest(signs []string) reader {
	return func(text string) (uint8, int, api.Errno) {
		for _, sign := range signs {
			if strings.HasPrefix(text, sign) {
				return TokSign, len(sign), api.OK
			}
		}
		return 0, 0, ErrChar
	}
}

// kindOfRun is the kind of a run; 0 if it is neither a word nor a name.
func kindOfRun(s string) uint8 {
	if Word(s) {
		return TokWord
	}
	if syntax.Variable(s) || syntax.Function(s) || syntax.Predicate(s) {
		return TokName
	}
	return 0
}

// kindOfMark is the kind of a mark; 0 if it is no metavariable.
func kindOfMark(s string) uint8 {
	if syntax.Meta(s) {
		return TokMeta
	}
	return 0
}

// blank reports whether a byte is a blank.
func blank(b byte) bool { return b == ' ' || b == '\t' || b == '\n' || b == '\r' }

// letter reports whether a byte is a letter.
func letter(b byte) bool { return 'a' <= b && b <= 'z' || 'A' <= b && b <= 'Z' }

// digit reports whether a byte is a digit.
func digit(b byte) bool { return '0' <= b && b <= '9' }

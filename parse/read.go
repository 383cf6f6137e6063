package parse

// read.go: going through the tokens of a text, up to its end or to a token that cannot stand there.

import (
	"lyceum/api"
	"lyceum/lex"
)

// parser reads tokens from the left to the right.
type parser struct {
	tokens  []lex.Token // those that have not been read; the last one is the end
	nests   int         // how many nests the first of them stands within
	metas   bool        // whether metavariables can stand anywhere
	unaries map[string]uint8
}

// wrong is what a parser panics with: the place of the token at which it ends, and why.
type wrong struct {
	at int
	e  api.Errno
}

// read is what the whole of a text is by a rule, or the place of an error.
func read[T any](s string, metas bool, rule func(p *parser) T, right func(t T) bool) (result T, at int, e api.Errno) {
	tokens, at, e := lex.Lex(s)
	if e != api.OK {
		return result, at, e
	}
	defer func() {
		if w, ok := recover().(wrong); ok {
			at, e = w.at, w.e
		}
	}()
	p := &parser{tokens: tokens, metas: metas, unaries: unaries()}
	t := rule(p)
	if !p.atEnd() {
		p.fail(ErrSyntax)
	}
	if !right(t) {
		return result, 0, api.ErrLong
	}
	return t, 0, api.OK
}

// fail ends the parser at the first token that has not been read.
func (p *parser) fail(e api.Errno) { panic(wrong{at: p.tokens[0].At, e: e}) }

// atEnd reports whether there are no tokens any more.
func (p *parser) atEnd() bool { return p.tokens[0].Kind == lex.TokEnd }

// text is the Text of the next token; that of the end is empty, so that it is none of those that are asked for.
func (p *parser) text() string { return p.tokens[0].Text }

// pass reads the next token, which is not the end.
func (p *parser) pass() string {
	s := p.text()
	p.tokens = p.tokens[1:]
	return s
}

// skip reads a sign or a word if it comes next, and reports whether it did.
func (p *parser) skip(s string) bool {
	if p.text() != s {
		return false
	}
	p.pass()
	return true
}

// need reads a sign, which is the only token that can stand there.
func (p *parser) need(s string) {
	if !p.skip(s) {
		p.fail(ErrSyntax)
	}
}

// name reads a name that satisfies a check, which is all that can stand there.
func (p *parser) name(check func(s string) bool) string {
	if !check(p.text()) {
		p.fail(ErrSyntax)
	}
	return p.pass()
}

// list reads what a rule tells, once or several times, with commas between.
func list[T any](p *parser, rule func() T) []T {
	l := []T{rule()}
	for p.skip(",") {
		l = append(l, rule())
	}
	return l
}

// nested reads what a rule tells, all of which stands within one more nest.
func nested[T any](p *parser, rule func() T) T {
	p.nests++
	t := rule()
	p.nests--
	return t
}

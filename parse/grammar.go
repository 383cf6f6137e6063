package parse

// grammar.go: the rules of the grammar, each of which reads what it stands for.

import (
	"lyceum/api"
	"lyceum/syntax"
)

// level is a sign that stands between two formulas; it is grouped from the left or from the right.
type level struct {
	sign      string
	op        uint8
	fromRight bool
}

// levels has the signs that bind less ahead of those that bind more.
var levels = [...]level{
	{sign: "<->", op: api.OpIff},
	{sign: "->", op: api.OpImp, fromRight: true},
	{sign: "until", op: api.OpUntil, fromRight: true},
	{sign: "|", op: api.OpOr},
	{sign: "&", op: api.OpAnd},
}

// unaries has the operators of the signs and words that stand ahead of a unary.
func unaries() map[string]uint8 {
	return map[string]uint8{
		"~":      api.OpNot,
		"[]":     api.OpBox,
		"<>":     api.OpDia,
		"next":   api.OpNext,
		"always": api.OpAlways,
		"all":    api.OpAll,
		"some":   api.OpSome,
	}
}

// formulas is a list of formulas, or nothing at all.
func (p *parser) formulas() []api.Form {
	if p.atEnd() {
		return nil
	}
	return list(p, p.formula)
}

// formula is a formula.
func (p *parser) formula() api.Form { return p.binary(0) }

// binary is a formula whose signs outside of brackets are those from a level on.
func (p *parser) binary(i int) api.Form {
	if i == len(levels) {
		return p.unary()
	}
	l := levels[i]
	f := p.binary(i + 1)
	if l.fromRight {
		if p.skip(l.sign) {
			f = two(l.op, f, nested(p, func() api.Form { return p.binary(i) }))
		}
		return f
	}
	for p.skip(l.sign) {
		f = two(l.op, f, p.binary(i+1))
	}
	return f
}

// two is a formula of two parts.
func two(op uint8, f, g api.Form) api.Form {
	return api.Form{Op: op, Sub: []api.Form{f, g}}
}

// shallow ends the parser if what begins with the next token is nested too deep.
func (p *parser) shallow() {
	if p.nests > MaxNest {
		p.fail(ErrDeep)
	}
}

// unary is a basic formula, with any number of unary operators ahead of it.
func (p *parser) unary() api.Form {
	p.shallow()
	op, found := p.unaries[p.text()]
	if !found {
		return p.basic()
	}
	p.pass()
	f := api.Form{Op: op}
	if op == api.OpAll || op == api.OpSome {
		f.Name = p.name(syntax.Variable)
	}
	f.Sub = []api.Form{nested(p, p.unary)}
	return f
}

// basic is a formula that no sign outside of brackets is in.
func (p *parser) basic() api.Form {
	switch {
	case p.skip("("):
		f := nested(p, p.formula)
		p.need(")")
		return f
	case p.skip("false"):
		return api.Form{Op: api.OpFalse}
	case p.metaOfForms(p.text()):
		return p.meta()
	}
	name := p.name(syntax.Predicate)
	return api.Form{Op: api.OpAtom, Name: name, Args: p.args()}
}

// meta is a metavariable of formulas, in which a term may be put for a variable.
func (p *parser) meta() api.Form {
	f := api.Form{Op: api.OpMeta, Name: p.pass()}
	if p.skip("[") {
		t := p.name(p.metaOfTerms)
		p.need("/")
		x := p.name(syntax.Variable)
		p.need("]")
		f.Op, f.Args = api.OpInst, []api.Term{{Var: true, Name: x}, {Var: true, Name: t}}
	}
	return f
}

// args is the terms in brackets behind a predicate or a function; none without brackets.
func (p *parser) args() []api.Term {
	if !p.skip("(") {
		return nil
	}
	l := nested(p, func() []api.Term { return list(p, p.term) })
	p.need(")")
	return l
}

// term is a term.
func (p *parser) term() api.Term {
	p.shallow()
	if s := p.text(); syntax.Variable(s) || p.metaOfTerms(s) {
		return api.Term{Var: true, Name: p.pass()}
	}
	name := p.name(syntax.Function)
	return api.Term{Name: name, Args: p.args()}
}

// metaOfForms reports whether a token is a metavariable of formulas that can stand somewhere.
func (p *parser) metaOfForms(s string) bool {
	return p.metas && syntax.Meta(s) && syntax.Predicate(s[1:])
}

// metaOfTerms reports whether a token is a metavariable of terms that can stand somewhere.
func (p *parser) metaOfTerms(s string) bool {
	return p.metas && syntax.Meta(s) && syntax.Function(s[1:])
}

package format

// text.go: the texts of formulas and terms.

import (
	"iter"
	"slices"
	"strings"

	"lyceum/api"
	"lyceum/syntax"
)

// join writes what is yielded, with a text between two items.
func join[T any](b *strings.Builder, items iter.Seq[T], between string, write func(item T)) {
	first := true
	for item := range items {
		if !first {
			b.WriteString(between)
		}
		first = false
		write(item)
	}
}

// apply writes a name with its terms in brackets, if it has any. All of it goes into one builder, as terms may be very deep.
func apply(b *strings.Builder, name string, args []api.Term, comma string) {
	b.WriteString(name)
	if len(args) == 0 {
		return
	}
	b.WriteByte('(')
	join(b, slices.Values(args), comma, func(t api.Term) { apply(b, t.Name, t.Args, comma) })
	b.WriteByte(')')
}

// rightTerm reports whether a term is right, as in schemas. Layer 2 tells this for schemas alone, whose size is bounded.
func rightTerm(t api.Term) bool {
	if t.Var {
		return len(t.Args) == 0 && (syntax.Variable(t.Name) || metaOfTerms(t.Name))
	}
	if !syntax.Function(t.Name) || len(t.Args) > syntax.MaxArgs {
		return false
	}
	return !slices.ContainsFunc(t.Args, func(a api.Term) bool { return !rightTerm(a) })
}

// metaOfTerms reports whether a string is a metavariable of terms.
func metaOfTerms(s string) bool { return syntax.Meta(s) && syntax.Function(s[1:]) }

// basic writes a formula without parts.
func basic(b *strings.Builder, f api.Form, comma string) {
	switch f.Op {
	case api.OpFalse:
		b.WriteString("false")
	case api.OpInst:
		b.WriteString(f.Name + "[" + f.Args[1].Name + "/" + f.Args[0].Name + "]")
	default:
		apply(b, f.Name, f.Args, comma)
	}
}

// ahead writes what stands ahead of the only part of a formula.
func ahead(b *strings.Builder, f api.Form) {
	s := signs[f.Op]
	b.WriteString(s.text)
	if s.spaced {
		b.WriteByte(' ')
	}
	if f.Name != "" {
		b.WriteString(f.Name + " ")
	}
}

// texts returns a function that writes formulas; bracketed reports whether the part with an index is in brackets.
func texts(b *strings.Builder, bracketed func(f api.Form, i int) bool) func(f api.Form) {
	var write func(f api.Form)
	part := func(f api.Form, i int) {
		if !bracketed(f, i) {
			write(f.Sub[i])
			return
		}
		b.WriteByte('(')
		write(f.Sub[i])
		b.WriteByte(')')
	}
	write = func(f api.Form) {
		switch len(f.Sub) {
		case 0:
			basic(b, f, ", ")
		case 1:
			ahead(b, f)
			part(f, 0)
		default:
			part(f, 0)
			b.WriteString(" " + signs[f.Op].text + " ")
			part(f, 1)
		}
	}
	return write
}

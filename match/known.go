package match

// known.go: bindings, and the maps in which they are kept while a call lasts.

import (
	"maps"
	"math"
	"slices"

	"lyceum/api"
	"lyceum/subst"
	"lyceum/syntax"
)

// knowledge is what metavariables stand for.
type knowledge struct {
	forms map[string]api.Form
	terms map[string]api.Term
}

// knowledgeOf is what a binding says.
func knowledgeOf(b Binding) knowledge {
	k := knowledge{map[string]api.Form{}, map[string]api.Term{}}
	for _, f := range b.Forms {
		k.forms[f.Name] = f.Form
	}
	for _, t := range b.Terms {
		k.terms[t.Name] = t.Term
	}
	return k
}

// copyTerm is a term in memory of its own.
func copyTerm(t api.Term) api.Term { return syntax.Copy(alone(t)).Args[0] }

// binding is the binding that says what is known, in memory of its own.
func (k knowledge) binding() Binding {
	var b Binding
	for _, name := range slices.Sorted(maps.Keys(k.forms)) {
		b.Forms = append(b.Forms, FormBind{Name: name, Form: syntax.Copy(k.forms[name])})
	}
	for _, name := range slices.Sorted(maps.Keys(k.terms)) {
		b.Terms = append(b.Terms, TermBind{Name: name, Term: copyTerm(k.terms[name])})
	}
	return b
}

// Valid reports whether a binding is valid.
func Valid(b Binding) bool {
	for i, f := range b.Forms {
		if !metaOfForms(f.Name) || i > 0 && b.Forms[i-1].Name >= f.Name || !rightForm(f.Form) {
			return false
		}
	}
	for i, t := range b.Terms {
		if !metaOfTerms(t.Name) || i > 0 && b.Terms[i-1].Name >= t.Name || !rightTerm(t.Term) {
			return false
		}
	}
	return true
}

// rightForm reports whether a formula is right, but that placeholders count as variables in terms.
func rightForm(f api.Form) bool { return syntax.Right(plain(f, api.MaxNodes)) }

// rightTerm reports whether a term is right, but that placeholders count as variables.
func rightTerm(t api.Term) bool { return syntax.Term(plain(alone(t), math.MaxInt).Args[0]) }

// plain is a formula with variables instead of its placeholders. Of what is beyond so many nodes and one more there is no copy: what is far too large takes few steps, and is still too large.
func plain(f api.Form, nodes int) api.Form {
	p := plainer{left: nodes}
	return p.form(f)
}

// plainer makes plain copies, as long as there are nodes left for it.
type plainer struct{ left int }

func (p *plainer) form(f api.Form) api.Form {
	p.left--
	r := api.Form{Op: f.Op, Name: f.Name, Args: p.terms(f.Args)}
	for _, sub := range f.Sub {
		if p.left < 0 {
			break
		}
		r.Sub = append(r.Sub, p.form(sub))
	}
	return r
}

func (p *plainer) terms(l []api.Term) []api.Term {
	var r []api.Term
	for _, t := range l {
		if p.left < 0 {
			break
		}
		p.left--
		u := api.Term{Var: t.Var, Name: t.Name, Args: p.terms(t.Args)}
		if x, is := ofPlaceholder(t.Name); is && t.Var {
			u.Name = x
		}
		r = append(r, u)
	}
	return r
}

// Form is the formula for which a metavariable stands.
func Form(b Binding, name string) (api.Form, bool) {
	for _, f := range b.Forms {
		if f.Name == name {
			return syntax.Copy(f.Form), true
		}
	}
	return api.Form{}, false
}

// Term is the term for which a metavariable stands.
func Term(b Binding, name string) (api.Term, bool) {
	for _, t := range b.Terms {
		if t.Name == name {
			return copyTerm(t.Term), true
		}
	}
	return api.Term{}, false
}

// Metas is the metavariables of a schema.
func Metas(schema api.Form) []string {
	set := map[string]bool{}
	for p := range places(schema, schema) {
		names := subst.Free(alone(p.schema.Args...))
		if p.schema.Op == api.OpMeta || p.schema.Op == api.OpInst {
			names = append(names, p.schema.Name)
		}
		for _, name := range names {
			if syntax.Meta(name) {
				set[name] = true
			}
		}
	}
	return slices.Sorted(maps.Keys(set))
}

package subst

// put.go: terms that are put for variables.

import (
	"cmp"
	"iter"
	"slices"

	"lyceum/api"
	"lyceum/syntax"
)

// bindings is what is put for variables, in the order of their Names, each of which is there once.
type bindings []One

// listed is the bindings of a list; the first of those with the same Name counts.
func listed(l []One) bindings {
	b := slices.Clone(l)
	slices.SortStableFunc(b, func(o, p One) int { return cmp.Compare(o.Name, p.Name) })
	return slices.CompactFunc(b, func(o, p One) bool { return o.Name == p.Name })
}

// of is what is put for a variable, and whether anything is.
func (b bindings) of(name string) (api.Term, bool) {
	i, found := slices.BinarySearchFunc(b, name, func(o One, name string) int { return cmp.Compare(o.Name, name) })
	if !found {
		return api.Term{}, false
	}
	return b[i].Term, true
}

// among is the bindings of the variables of a set.
func (b bindings) among(set names) bindings {
	var l bindings
	for _, o := range b {
		if set[o.Name] {
			l = append(l, o)
		}
	}
	return l
}

// renaming is the bindings with another name that is put for a variable, whatever was put for it.
func (b bindings) renaming(name, other string) bindings {
	return listed(append([]One{{Name: name, Term: api.Term{Var: true, Name: other}}}, b...))
}

// free yields the free variables of the terms that are put.
func (b bindings) free() iter.Seq[string] {
	return func(yield func(name string) bool) {
		for _, o := range b {
			if !walkTerm(o.Term, yield) {
				return
			}
		}
	}
}

// replace changes a list of terms: a variable becomes the term that of tells of it. They need to be in memory of their own.
func replace(l []api.Term, of func(name string) (api.Term, bool)) {
	for i := range l {
		if t, found := of(l[i].Name); found && l[i].Var {
			l[i] = syntax.Copy(alone(t)).Args[0]
		} else {
			replace(l[i].Args, of)
		}
	}
}

// put changes a formula: the bindings are put into it. It needs to be in memory of its own.
func put(f *api.Form, b bindings) {
	if quantifies(*f) {
		inside := collect(free(*f))
		b = b.among(inside)
		if terms := collect(b.free()); terms[f.Name] {
			// No other name needs to be kept out: its own is free in the terms, and the variables that count are free inside.
			name := least(inside, terms)
			b = b.renaming(f.Name, name)
			f.Name = name
		}
	}
	replace(f.Args, b.of)
	for i := range f.Sub {
		put(&f.Sub[i], b)
	}
}

// PutTerm is a term with terms put for variables.
func PutTerm(u api.Term, l []One) api.Term {
	f := syntax.Copy(alone(u))
	put(&f, listed(l))
	return f.Args[0]
}

// Put is a formula with a term put for a variable.
func Put(f api.Form, x string, t api.Term) (api.Form, api.Errno) {
	return Puts(f, []One{{Name: x, Term: t}})
}

// Puts is a formula with terms put for variables.
func Puts(f api.Form, l []One) (api.Form, api.Errno) {
	b := listed(l)
	if !syntax.Right(f) || !right(l) || len(b) < len(l) {
		return api.Form{}, api.ErrArg
	}
	// A formula has few variables, while the list may be long, and every quantifier goes through it.
	b = b.among(collect(free(f)))
	if long(f, b) {
		return api.Form{}, api.ErrLong
	}
	r := syntax.Copy(f)
	put(&r, b)
	if syntax.Depth(r) > api.MaxDepth {
		return api.Form{}, api.ErrLong
	}
	return r, api.OK
}

// right reports whether the elements of a list are variables with right terms.
func right(l []One) bool {
	for _, o := range l {
		if !syntax.Variable(o.Name) || !syntax.Term(o.Term) {
			return false
		}
	}
	return true
}

// long reports whether a formula into which terms are put has too many nodes. It is told ahead, so that nothing is made of many long terms.
func long(f api.Form, b bindings) bool {
	nodes := syntax.Nodes(f)
	for name := range free(f) {
		if t, found := b.of(name); found {
			// The node of the variable goes, and what holds the term has a node, too.
			nodes += syntax.Nodes(alone(t)) - 2
		}
		if nodes > api.MaxNodes {
			return true
		}
	}
	return false
}

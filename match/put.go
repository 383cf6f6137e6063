package match

// put.go: terms that are put for names, and formulas up to bound names.

import (
	"slices"

	"lyceum/api"
	"lyceum/subst"
	"lyceum/syntax"
)

// put changes a formula: a term is put for a name. It needs to be in memory of its own.
func put(f *api.Form, name string, t api.Term) {
	if quantifies(*f) {
		inside, inTerm := subst.Free(f.Sub[0]), subst.FreeTerm(t)
		if f.Name == name || !slices.Contains(inside, name) {
			return
		}
		if slices.Contains(inTerm, f.Name) {
			other := subst.Fresh(slices.Concat(inside, inTerm))
			put(&f.Sub[0], f.Name, variable(other))
			f.Name = other
		}
	}
	for i, u := range f.Args {
		f.Args[i] = subst.PutTerm(u, []subst.One{{Name: name, Term: t}})
	}
	for i := range f.Sub {
		put(&f.Sub[i], name, t)
	}
}

// equal reports whether two formulas are equal up to bound names, when something is put for a placeholder in the first one. That formula is not made, as it may be far longer than the other one.
func equal(f, g api.Form, o subst.One) bool {
	for p := range places(f, g) {
		if !p.alike() || !slices.EqualFunc(p.schema.Args, p.form.Args, func(s, t api.Term) bool { return p.around.equal(s, t, o) }) {
			return false
		}
	}
	return true
}

// equal reports whether two terms within these quantifiers are equal, when something is put for a placeholder in the first one.
func (l scope) equal(s, t api.Term, o subst.One) bool {
	switch {
	case s.Var && s.Name == o.Name:
		return syntax.SameTerm(o.Term, t) && !slices.ContainsFunc(subst.FreeTerm(t), func(name string) bool { return l.binder(name) >= 0 })
	case s.Var && t.Var:
		return l.same(s.Name, t.Name)
	}
	return s.Var == t.Var && s.Name == t.Name &&
		slices.EqualFunc(s.Args, t.Args, func(s, t api.Term) bool { return l.equal(s, t, o) })
}

// counterpart is the term of a formula that is at the place at which a name stands first in another formula.
func counterpart(f, g api.Form, name string) (api.Term, bool) {
	for p := range places(f, g) {
		if t, found := counterpartAmong(p.schema.Args, p.form.Args, name); found {
			return t, true
		}
	}
	return api.Term{}, false
}

// counterpartAmong is the counterpart of the place at which a name stands first in a list of terms.
func counterpartAmong(l, among []api.Term, name string) (api.Term, bool) {
	for i := range min(len(l), len(among)) {
		if l[i].Var && l[i].Name == name {
			return among[i], true
		}
		if t, found := counterpartAmong(l[i].Args, among[i].Args, name); found {
			return t, true
		}
	}
	return api.Term{}, false
}

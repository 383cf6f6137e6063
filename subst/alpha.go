package subst

// alpha.go: formulas up to the names of bound variables.

import (
	"slices"

	"lyceum/api"
	"lyceum/syntax"
)

// pair is the Names of two quantifiers at the same place of two formulas.
type pair struct{ a, b string }

// scopes is the quantifiers around a place, the innermost one last.
type scopes []pair

// same reports whether two variables are bound by the quantifiers at the same place, or are free and equal.
func (l scopes) same(a, b string) bool {
	for _, p := range slices.Backward(l) {
		if p.a == a || p.b == b {
			return p.a == a && p.b == b
		}
	}
	return a == b
}

// alikeTerms reports whether two terms are equal but for their variables, and these are the same.
func alikeTerms(s, t api.Term, same func(a, b string) bool) bool {
	if s.Var && t.Var {
		return same(s.Name, t.Name)
	}
	return s.Var == t.Var && s.Name == t.Name &&
		slices.EqualFunc(s.Args, t.Args, func(s, t api.Term) bool { return alikeTerms(s, t, same) })
}

// alike reports whether two right formulas are equal up to bound names, within quantifiers around them.
func alike(f, g api.Form, around scopes) bool {
	if f.Op != g.Op || !quantifies(f) && f.Name != g.Name {
		return false
	}
	if quantifies(f) {
		around = append(around, pair{f.Name, g.Name})
	}
	return slices.EqualFunc(f.Args, g.Args, func(s, t api.Term) bool { return alikeTerms(s, t, around.same) }) &&
		slices.EqualFunc(f.Sub, g.Sub, func(p, q api.Form) bool { return alike(p, q, around) })
}

// Alpha reports whether two formulas are equal up to bound names.
func Alpha(a, b api.Form) bool { return syntax.Right(a) && syntax.Right(b) && alike(a, b, nil) }

// normalize changes a formula into its normal form. The names that are taken are those of free variables and the new ones of quantifiers around it, which the bindings put for the old ones. The formula needs to be in memory of its own.
func normalize(f *api.Form, taken names, b bindings) {
	if quantifies(*f) {
		name := least(taken)
		b = b.renaming(f.Name, name)
		f.Name = name
		taken[name] = true
	}
	replace(f.Args, b.of)
	for i := range f.Sub {
		normalize(&f.Sub[i], taken, b)
	}
	if quantifies(*f) {
		delete(taken, f.Name)
	}
}

// Normal is the normal form of a formula.
func Normal(f api.Form) (api.Form, api.Errno) {
	if !syntax.Right(f) {
		return api.Form{}, api.ErrArg
	}
	r := syntax.Copy(f)
	normalize(&r, collect(free(f)), nil)
	return r, api.OK
}

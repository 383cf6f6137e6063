package match

// place.go: places with the quantifiers around them, and images.

import (
	"iter"
	"slices"

	"lyceum/api"
	"lyceum/subst"
	"lyceum/syntax"
)

// bond is a quantifier around a place: its variable in a schema, and its actual one in a formula.
type bond struct{ own, actual string }

// scope is the quantifiers around a place, the innermost one last.
type scope []bond

// place is a place of a schema and of a formula: the parts that are there, and the quantifiers around both.
type place struct {
	schema, form api.Form
	around       scope
}

// places yields the places of a schema, in the order of its parts, as far as a formula has the same ones. A place's scope is there until the next one is asked for.
func places(schema, f api.Form) iter.Seq[place] {
	return func(yield func(p place) bool) {
		walk(place{schema: schema, form: f}, yield)
	}
}

// walk yields a place and those below it, and reports whether more is asked for. It is one recursion with one yield: if each level yielded to the one above, deep formulas would take the square of the time.
func walk(p place, yield func(p place) bool) bool {
	if !yield(p) {
		return false
	}
	for i := range min(len(p.schema.Sub), len(p.form.Sub)) {
		if !walk(p.below(i), yield) {
			return false
		}
	}
	return true
}

// below is the place of the part with an index.
func (p place) below(i int) place {
	around := p.around
	if quantifies(p.schema) {
		around = append(around, bond{p.schema.Name, p.form.Name})
	}
	return place{p.schema.Sub[i], p.form.Sub[i], around}
}

// alike reports whether schema and formula have the same signs at a place: all but their terms, their parts, and the Names of quantifiers. (As both are right, they have as many parts then.)
func (p place) alike() bool {
	return p.schema.Op == p.form.Op && (quantifies(p.schema) || p.schema.Name == p.form.Name)
}

// binds reports whether one of the quantifiers has a variable in the schema.
func (l scope) binds(own string) bool {
	return slices.ContainsFunc(l, func(b bond) bool { return b.own == own })
}

// binder is the index of the quantifier that binds an actual variable; -1 if none does.
func (l scope) binder(actual string) int {
	for i, b := range slices.Backward(l) {
		if b.actual == actual {
			return i
		}
	}
	return -1
}

// same reports whether a variable of the schema and an actual one are bound by the same quantifier, or are free and equal.
func (l scope) same(own, actual string) bool {
	for _, b := range slices.Backward(l) {
		if b.own == own || b.actual == actual {
			return b.own == own && b.actual == actual
		}
	}
	return own == actual
}

// image is the image of a part of the formula within these quantifiers, in memory of its own, and whether it has one.
func (l scope) image(f api.Form) (api.Form, bool) {
	r := syntax.Copy(f)
	for _, name := range subst.Free(f) {
		i := l.binder(name)
		if i < 0 {
			continue
		}
		// The schema's variable means its innermost quantifier here.
		if l[i+1:].binds(l[i].own) {
			return api.Form{}, false
		}
		put(&r, name, variable(placeholder(l[i].own)))
	}
	return r, true
}

package match

// compare.go: the two passes, in which schemas are compared with formulas.

import (
	"slices"

	"lyceum/api"
	"lyceum/subst"
	"lyceum/syntax"
)

// told is the error that tells whether something matches.
func told(matches bool) api.Errno {
	if !matches {
		return ErrMatch
	}
	return api.OK
}

// compare is the first pass at a place: all but an OpInst is compared, and metavariables become known.
func (k knowledge) compare(p place) api.Errno {
	switch p.schema.Op {
	case api.OpInst:
		return api.OK
	case api.OpMeta:
		return told(k.compareMeta(p))
	}
	return told(p.alike() && k.compareArgs(p))
}

// compareMeta compares an OpMeta with what is at its place.
func (k knowledge) compareMeta(p place) bool {
	image, found := p.around.image(p.form)
	if !found {
		return false
	}
	if f, known := k.forms[p.schema.Name]; known {
		return equal(f, image, subst.One{})
	}
	k.forms[p.schema.Name] = image
	return true
}

// compareArgs compares the Args at a place.
func (k knowledge) compareArgs(p place) bool {
	image, found := p.around.image(alone(p.form.Args...))
	return found && k.compareTerms(p.schema.Args, image.Args, p.around)
}

// compareTerms compares terms of a schema with images.
func (k knowledge) compareTerms(l, images []api.Term, around scope) bool {
	return slices.EqualFunc(l, images, func(s, image api.Term) bool { return k.compareTerm(s, image, around) })
}

// compareTerm compares a term of a schema with an image.
func (k knowledge) compareTerm(s, image api.Term, around scope) bool {
	switch {
	case metaOfTerms(s.Name):
		if t, known := k.terms[s.Name]; known {
			return syntax.SameTerm(t, image)
		}
		k.terms[s.Name] = image
		return true
	case s.Var && around.binds(s.Name):
		return syntax.SameTerm(variable(placeholder(s.Name)), image)
	}
	return s.Var == image.Var && s.Name == image.Name && k.compareTerms(s.Args, image.Args, around)
}

// compareInst is the second pass at a place: an OpInst is compared, and its metavariable of terms becomes known.
func (k knowledge) compareInst(p place) api.Errno {
	if p.schema.Op != api.OpInst {
		return api.OK
	}
	f, known := k.forms[p.schema.Name]
	if !known {
		return ErrLater
	}
	image, found := p.around.image(p.form)
	return told(found && k.instMatches(p.schema, f, image))
}

// instMatches compares an OpInst of a metavariable that stands for a formula with an image.
func (k knowledge) instMatches(inst, f, image api.Form) bool {
	mark, meta := placeholder(inst.Args[0].Name), inst.Args[1].Name
	t, known := k.terms[meta]
	if !known {
		// Where there is no such term, or one with a variable that is bound there, the formulas are not equal either, so this need not be told apart.
		if t, known = counterpart(f, image, mark); known {
			k.terms[meta] = t
		}
	}
	return equal(f, image, subst.One{Name: mark, Term: t})
}

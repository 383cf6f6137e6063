package syntax

// walk.go: going through formulas and terms. All of it stops as soon as no more is asked for, so that a bound ends the way through a formula that is far beyond it.

import (
	"iter"

	"lyceum/api"
)

// parts yields a formula and its parts, in their order, with their levels: 1 is that of the formula itself.
func parts(f api.Form) iter.Seq2[int, api.Form] {
	return func(yield func(level int, p api.Form) bool) {
		walkForm(1, f, yield)
	}
}

// walkForm yields a formula and its parts, and reports whether more is asked for. It is one recursion with one yield: if each level yielded to the one above, deep formulas would take the square of the time.
func walkForm(level int, f api.Form, yield func(level int, p api.Form) bool) bool {
	if !yield(level, f) {
		return false
	}
	for _, p := range f.Sub {
		if !walkForm(level+1, p, yield) {
			return false
		}
	}
	return true
}

// terms yields all terms in a formula, with their levels.
func terms(f api.Form) iter.Seq2[int, api.Term] {
	return func(yield func(level int, t api.Term) bool) {
		for level, p := range parts(f) {
			for _, t := range p.Args {
				if !walkTerm(level+1, t, yield) {
					return
				}
			}
		}
	}
}

// walkTerm yields a term and those in it, and reports whether more is asked for.
func walkTerm(level int, t api.Term, yield func(level int, t api.Term) bool) bool {
	if !yield(level, t) {
		return false
	}
	for _, a := range t.Args {
		if !walkTerm(level+1, a, yield) {
			return false
		}
	}
	return true
}

// levels yields the level of each node of a formula.
func levels(f api.Form) iter.Seq[int] {
	return func(yield func(level int) bool) {
		for level := range parts(f) {
			if !yield(level) {
				return
			}
		}
		for level := range terms(f) {
			if !yield(level) {
				return
			}
		}
	}
}

// fits reports whether a formula has at most so many nodes, and at most that depth.
func fits(f api.Form, nodes, depth int) bool {
	for level := range levels(f) {
		nodes--
		if nodes < 0 || level > depth {
			return false
		}
	}
	return true
}

// Nodes is the number of nodes.
func Nodes(f api.Form) int {
	n := 0
	for range levels(f) {
		n++
	}
	return n
}

// Depth is the depth.
func Depth(f api.Form) int {
	d := 0
	for level := range levels(f) {
		d = max(d, level)
	}
	return d
}

// Ops is the mask of the operators of all parts.
func Ops(f api.Form) uint32 {
	var mask uint32
	for _, p := range parts(f) {
		mask |= 1 << p.Op
	}
	return mask
}

package syntax

// parts.go: parts of formulas and their places, and the symbols in formulas.

import (
	"cmp"
	"slices"

	"lyceum/api"
)

// Parts is all parts of a formula.
func Parts(f api.Form) []api.Form {
	// What has at most so many nodes is not deeper, either.
	if !fits(f, MaxParts, MaxParts) {
		return nil
	}
	var l []api.Form
	// The parts that are there, by their numbers of nodes: others need not be compared, and those of one size are disjoint, so that even a long chain of parts takes few steps.
	seen := map[int][]api.Form{}
	for _, p := range parts(f) {
		n := Nodes(p)
		if slices.ContainsFunc(seen[n], func(q api.Form) bool { return Same(p, q) }) {
			continue
		}
		seen[n] = append(seen[n], p)
		l = append(l, Copy(p))
	}
	return l
}

// has reports whether a formula has a Sub with an index.
func has(f api.Form, i int) bool { return i >= 0 && i < len(f.Sub) }

// At is the part at a place.
func At(f api.Form, place []int) (api.Form, api.Errno) {
	for _, i := range place {
		if !has(f, i) {
			return api.Form{}, api.ErrNone
		}
		f = f.Sub[i]
	}
	return Copy(f), api.OK
}

// With is a formula with another part at a place.
func With(f api.Form, place []int, part api.Form) (api.Form, api.Errno) {
	r := Copy(f)
	at := &r
	for _, i := range place {
		if !has(*at, i) {
			return api.Form{}, api.ErrNone
		}
		at = &at.Sub[i]
	}
	*at = Copy(part)
	return r, api.OK
}

// Predicates is the predicates of a formula.
func Predicates(f api.Form) []Symbol {
	var l []Symbol
	for _, p := range parts(f) {
		if p.Op == api.OpAtom {
			l = append(l, Symbol{Name: p.Name, Arity: len(p.Args)})
		}
	}
	return inOrder(l)
}

// Functions is the functions of a formula.
func Functions(f api.Form) []Symbol {
	var l []Symbol
	for _, t := range terms(f) {
		if !t.Var {
			l = append(l, Symbol{Name: t.Name, Arity: len(t.Args)})
		}
	}
	return inOrder(l)
}

// compareSymbols tells which one of two symbols comes ahead.
func compareSymbols(a, b Symbol) int {
	if c := cmp.Compare(a.Name, b.Name); c != 0 {
		return c
	}
	return cmp.Compare(a.Arity, b.Arity)
}

// inOrder puts a list of symbols into order, and leaves out duplicates.
func inOrder(l []Symbol) []Symbol {
	slices.SortFunc(l, compareSymbols)
	return slices.Compact(l)
}

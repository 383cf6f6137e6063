package subst

// free.go: which variables are free, which names are bound, and which name is not taken.

import (
	"iter"
	"maps"
	"slices"
	"strconv"

	"lyceum/api"
)

// names is a set of names.
type names map[string]bool

// collect is the set of the names that a sequence yields.
func collect(l iter.Seq[string]) names {
	set := names{}
	for name := range l {
		set[name] = true
	}
	return set
}

// inOrder is the names of a set, in increasing order.
func (set names) inOrder() []string { return slices.Sorted(maps.Keys(set)) }

// free yields the free variables of a formula, each as often as it is free there.
func free(f api.Form) iter.Seq[string] {
	return func(yield func(name string) bool) {
		around := map[string]int{}
		walkForm(f, around, func(name string) bool { return around[name] > 0 || yield(name) })
	}
}

// walkForm visits the variables of a formula, and reports whether it was to go on to the end; meanwhile, around counts the quantifiers around by their Names. It is one recursion with one visitor: if each level yielded to the one above, deep formulas would take the square of the time.
func walkForm(f api.Form, around map[string]int, visit func(name string) bool) bool {
	for _, t := range f.Args {
		if !walkTerm(t, visit) {
			return false
		}
	}
	if quantifies(f) {
		around[f.Name]++
	}
	for _, p := range f.Sub {
		if !walkForm(p, around, visit) {
			return false
		}
	}
	if quantifies(f) {
		around[f.Name]--
	}
	return true
}

// walkTerm visits the variables of a term, and reports whether it was to go on to the end.
func walkTerm(t api.Term, visit func(name string) bool) bool {
	if t.Var && !visit(t.Name) {
		return false
	}
	for _, a := range t.Args {
		if !walkTerm(a, visit) {
			return false
		}
	}
	return true
}

// FreeTerm is the free variables of a term.
func FreeTerm(t api.Term) []string { return Free(alone(t)) }

// Free is the free variables of a formula.
func Free(f api.Form) []string { return collect(free(f)).inOrder() }

// addBound adds the Names of all quantifiers of a formula to a set.
func addBound(f api.Form, set names) {
	if quantifies(f) {
		set[f.Name] = true
	}
	for _, p := range f.Sub {
		addBound(p, set)
	}
}

// Bound is the names of all quantifiers of a formula.
func Bound(f api.Form) []string {
	set := names{}
	addBound(f, set)
	return set.inOrder()
}

// least is the least of the names x1, x2, x3, .. that is in none of the sets.
func least(taken ...names) string {
search:
	for n := 1; ; n++ {
		name := "x" + strconv.Itoa(n)
		for _, set := range taken {
			if set[name] {
				continue search
			}
		}
		return name
	}
}

// Fresh is the least name that is not taken.
func Fresh(taken []string) string { return least(collect(slices.Values(taken))) }

package syntax

// order.go: the orders of terms and of formulas, and copies.

import (
	"cmp"

	"lyceum/api"
)

// compareLists compares two lists: their lengths decide, then the first elements that differ.
func compareLists[T any](a, b []T, compare func(a, b T) int) int {
	if c := cmp.Compare(len(a), len(b)); c != 0 {
		return c
	}
	for i := range a {
		if c := compare(a[i], b[i]); c != 0 {
			return c
		}
	}
	return 0
}

// compareTerms tells which one of two terms comes ahead.
func compareTerms(a, b api.Term) int {
	if a.Var != b.Var {
		if a.Var {
			return -1
		}
		return 1
	}
	if c := cmp.Compare(a.Name, b.Name); c != 0 {
		return c
	}
	return compareLists(a.Args, b.Args, compareTerms)
}

// Compare tells which one of two formulas comes ahead.
func Compare(a, b api.Form) int {
	if c := cmp.Compare(a.Op, b.Op); c != 0 {
		return c
	}
	if c := cmp.Compare(a.Name, b.Name); c != 0 {
		return c
	}
	if c := compareLists(a.Args, b.Args, compareTerms); c != 0 {
		return c
	}
	return compareLists(a.Sub, b.Sub, Compare)
}

// Same reports whether two formulas are equal.
func Same(a, b api.Form) bool { return Compare(a, b) == 0 }

// SameTerm reports whether two terms are equal.
func SameTerm(a, b api.Term) bool { return compareTerms(a, b) == 0 }

// copyList is a list of the copies of a list's elements.
func copyList[T any](l []T, copied func(x T) T) []T {
	if len(l) == 0 {
		return nil
	}
	r := make([]T, len(l))
	for i, x := range l {
		r[i] = copied(x)
	}
	return r
}

// copyTerm is a term in memory of its own.
func copyTerm(t api.Term) api.Term {
	t.Args = copyList(t.Args, copyTerm)
	return t
}

// Copy is a formula in memory of its own.
func Copy(f api.Form) api.Form {
	f.Args = copyList(f.Args, copyTerm)
	f.Sub = copyList(f.Sub, Copy)
	return f
}

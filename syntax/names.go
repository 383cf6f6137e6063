package syntax

// names.go: which strings are names, and of what.

import (
	"strings"

	"lyceum/api"
)

// digit reports whether a byte is a digit.
func digit(b byte) bool { return '0' <= b && b <= '9' }

// letterOrDigit reports whether a byte is a letter or a digit.
func letterOrDigit(b byte) bool {
	return 'a' <= b && b <= 'z' || 'A' <= b && b <= 'Z' || digit(b)
}

// names returns a check: whether a string has the length of a name, begins with a byte from first to last, and goes on with bytes that next accepts.
func names(first, last byte, next func(b byte) bool) func(s string) bool {
	return func(s string) bool {
		if len(s) < 1 || len(s) > api.MaxName || s[0] < first || s[0] > last {
			return false
		}
		for i := 1; i < len(s); i++ {
			if !next(s[i]) {
				return false
			}
		}
		return true
	}
}

// metas returns a check: whether a string is a question mark and one of the names that named accepts, and no longer than a name.
func metas(named func(s string) bool) func(s string) bool {
	return func(s string) bool {
		name, marked := strings.CutPrefix(s, "?")
		return marked && len(s) <= api.MaxName && named(name)
	}
}

// word reports whether a string is a word of the texts of formulas, which is no name.
func word(s string) bool {
	switch s {
	case "all", "some", "false", "next", "always", "until":
		return true
	}
	return false
}

// Variable reports whether a string is a variable.
func Variable(s string) bool { return names('u', 'z', digit)(s) }

// Function reports whether a string is a function.
func Function(s string) bool { return names('a', 't', letterOrDigit)(s) && !word(s) }

// Predicate reports whether a string is a predicate.
func Predicate(s string) bool { return names('A', 'Z', letterOrDigit)(s) }

// metaOfForms reports whether a string is a metavariable of formulas.
func metaOfForms(s string) bool { return metas(Predicate)(s) }

// metaOfTerms reports whether a string is a metavariable of terms.
func metaOfTerms(s string) bool { return metas(Function)(s) }

// Meta reports whether a string is a metavariable.
func Meta(s string) bool { return metaOfForms(s) || metaOfTerms(s) }

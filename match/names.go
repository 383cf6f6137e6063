package match

// names.go: names of metavariables and of placeholders, and what terms are made of them.

import (
	"strings"

	"lyceum/api"
	"lyceum/syntax"
)

// metaOfForms reports whether a string is a metavariable of formulas.
func metaOfForms(s string) bool { return syntax.Meta(s) && syntax.Predicate(s[1:]) }

// metaOfTerms reports whether a string is a metavariable of terms.
func metaOfTerms(s string) bool { return syntax.Meta(s) && syntax.Function(s[1:]) }

// placeholder is the placeholder of a variable.
func placeholder(x string) string { return "?" + x }

// ofPlaceholder is the variable whose placeholder a string is, and whether it is one.
func ofPlaceholder(s string) (string, bool) {
	x, marked := strings.CutPrefix(s, "?")
	return x, marked && syntax.Variable(x)
}

// variable is the term that is a variable, or a placeholder.
func variable(name string) api.Term { return api.Term{Var: true, Name: name} }

// quantifies reports whether a formula binds its Name in its parts.
func quantifies(f api.Form) bool { return f.Op == api.OpAll || f.Op == api.OpSome }

// alone is what holds terms and nothing else, so that what is done with formulas can be done with terms.
func alone(l ...api.Term) api.Form { return api.Form{Args: l} }

package format

// prefix.go: texts with the signs in front.

import (
	"iter"
	"strings"

	"lyceum/api"
)

// words yields the words of the prefix text of a formula.
func words(f api.Form) iter.Seq[string] {
	return func(yield func(word string) bool) {
		if len(f.Sub) == 0 {
			yield(oneWord(f))
			return
		}
		if !yield(signs[f.Op].text) || f.Name != "" && !yield(f.Name) {
			return
		}
		for _, p := range f.Sub {
			for word := range words(p) {
				if !yield(word) {
					return
				}
			}
		}
	}
}

// oneWord is a formula without parts, with no space in it.
func oneWord(f api.Form) string {
	var b strings.Builder
	basic(&b, f, ",")
	return b.String()
}

package format

import (
	"slices"
	"testing"

	"lyceum/api"
)

// P6.1: prefix texts are yielded word by word, as long as more is asked for.
func TestWordsStop(t *testing.T) {
	P := api.Form{Op: api.OpAtom, Name: "P", Args: []api.Term{{Name: "a"}, {Name: "b"}}}
	not := api.Form{Op: api.OpNot, Sub: []api.Form{P}}
	all := api.Form{Op: api.OpAll, Name: "x", Sub: []api.Form{not}}
	f := api.Form{Op: api.OpAnd, Sub: []api.Form{all, not}}
	want := []string{"&", "all", "x", "~", "P(a,b)", "~", "P(a,b)"}
	for n := range len(want) {
		var got []string
		for word := range words(f) {
			got = append(got, word)
			if len(got) > n {
				break
			}
		}
		if !slices.Equal(got, want[:n+1]) {
			t.Errorf("the first %d words are %q", n+1, got)
		}
	}
}

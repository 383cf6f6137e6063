package rule

// back.go: what the premises of a step have to be.

import (
	"slices"
	"strings"

	"lyceum/api"
	"lyceum/match"
	"lyceum/subst"
	"lyceum/syntax"
)

// variables reports whether all strings of a list are variables.
func variables(l []string) bool {
	return !slices.ContainsFunc(l, func(s string) bool { return !syntax.Variable(s) })
}

// freeIn is the free variables of all that a binding has, which may be there more than once.
func freeIn(b match.Binding) []string {
	var l []string
	for _, f := range b.Forms {
		l = append(l, subst.Free(f.Form)...)
	}
	for _, t := range b.Terms {
		l = append(l, subst.FreeTerm(t.Term)...)
	}
	return l
}

// withFresh is the Terms of a binding, and the fresh variables of those premises whose Fresh is not known.
func withFresh(r api.Rule, b match.Binding, concl api.Form, taken []string) []match.TermBind {
	l, names := slices.Clone(b.Terms), slices.Concat(taken, subst.Free(concl), freeIn(b))
	for _, p := range r.Prems {
		i, known := slices.BinarySearchFunc(l, p.Fresh, func(t match.TermBind, name string) int { return strings.Compare(t.Name, name) })
		if p.Fresh == "" || known {
			continue
		}
		// A variable that is fresh for one premise is not so for the next one.
		x := subst.Fresh(names)
		names = append(names, x)
		l = slices.Insert(l, i, match.TermBind{Name: p.Fresh, Term: api.Term{Var: true, Name: x}})
	}
	return l
}

// filled is the premises with what a binding says in the place of their metavariables.
func filled(prems []api.Prem, b match.Binding) ([]api.Prem, api.Errno) {
	var l []api.Prem
	for _, p := range prems {
		fresh, _ := match.Term(b, p.Fresh)
		r := api.Prem{Fresh: fresh.Name, Closed: p.Closed}
		for i, schema := range schemasOf(p) {
			f, e := match.Fill(schema, b)
			if e != api.OK {
				return nil, e
			}
			if i == 0 {
				r.Concl = f
			} else {
				r.Hyps = append(r.Hyps, f)
			}
		}
		l = append(l, r)
	}
	return l, api.OK
}

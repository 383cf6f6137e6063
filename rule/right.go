package rule

// right.go: which rules are right.

import (
	"iter"
	"slices"
	"strings"

	"lyceum/api"
	"lyceum/syntax"
)

// Right reports whether a rule is right.
func Right(r api.Rule) bool {
	return rightName(r.Name) && rightNumbers(r) && !slices.ContainsFunc(schemas(r), wrong) && metasStand(r) && !slices.ContainsFunc(r.Prems, freshAstray)
}

// rightName reports whether a string may be the Name of a rule.
func rightName(s string) bool {
	return s != "" && len(s) <= api.MaxName && letter(rune(s[0])) && !strings.ContainsFunc(s, func(c rune) bool { return !letter(c) && !digit(c) })
}

func letter(c rune) bool { return 'a' <= c && c <= 'z' || 'A' <= c && c <= 'Z' }

func digit(c rune) bool { return '0' <= c && c <= '9' }

// rightNumbers reports whether a rule has no more premises, and these no more Hyps, than there may be.
func rightNumbers(r api.Rule) bool {
	return len(r.Prems) <= MaxPrems && !slices.ContainsFunc(r.Prems, func(p api.Prem) bool { return len(p.Hyps) > MaxHyps })
}

// concls is the conclusions of a rule and of its premises.
func concls(r api.Rule) []api.Form {
	l := []api.Form{r.Concl}
	for _, p := range r.Prems {
		l = append(l, p.Concl)
	}
	return l
}

// wrong reports whether a schema is not right.
func wrong(schema api.Form) bool { return !syntax.Schema(schema) }

// schemasOf is the schemas of a premise: its Concl, then its Hyps.
func schemasOf(p api.Prem) []api.Form { return slices.Concat([]api.Form{p.Concl}, p.Hyps) }

// schemas is all schemas of a rule.
func schemas(r api.Rule) []api.Form {
	l := []api.Form{r.Concl}
	for _, p := range r.Prems {
		l = append(l, schemasOf(p)...)
	}
	return l
}

// parts yields the parts of a schema. (Those of syntax.Parts are copies, of which no two are the same; a rule is asked for whether it is right too often for that.)
func parts(schema api.Form) iter.Seq[api.Form] {
	return func(yield func(part api.Form) bool) { visit(schema, yield) }
}

// visit visits the parts of a schema, and reports whether it was to go on to the end.
func visit(schema api.Form, yield func(part api.Form) bool) bool {
	if !yield(schema) {
		return false
	}
	for _, p := range schema.Sub {
		if !visit(p, yield) {
			return false
		}
	}
	return true
}

// metasStand reports whether each metavariable of formulas stands by itself in a conclusion: so a step tells all of them, whatever it discharges.
func metasStand(r api.Rule) bool {
	stand := map[string]bool{}
	for _, concl := range concls(r) {
		for p := range parts(concl) {
			if p.Op == api.OpMeta {
				stand[p.Name] = true
			}
		}
	}
	for _, schema := range schemas(r) {
		for p := range parts(schema) {
			if (p.Op == api.OpMeta || p.Op == api.OpInst) && !stand[p.Name] {
				return false
			}
		}
	}
	return true
}

// freshAstray reports whether a premise has a Fresh that is put for nothing in its schemas.
func freshAstray(p api.Prem) bool {
	if p.Fresh == "" {
		return false
	}
	for _, schema := range schemasOf(p) {
		for part := range parts(schema) {
			if part.Op == api.OpInst && part.Args[1].Name == p.Fresh {
				return false
			}
		}
	}
	return true
}

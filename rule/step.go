package rule

// step.go: whether a step is one by its rule.

import (
	"iter"
	"slices"

	"lyceum/api"
	"lyceum/match"
	"lyceum/subst"
	"lyceum/syntax"
)

// step is a conclusion and premises, and the rule by which they are to be a step.
type step struct {
	rule  api.Rule
	concl api.Form
	prems []Got
}

// place is where a formula of a step is, and the schema for it in the rule: as the Prem and the Index of a fault tell it.
type place struct{ prem, index int }

// formulas yields the formulas of a step with their places, in the order in which they are matched; the Rest is not matched.
func (s step) formulas() iter.Seq2[place, api.Form] {
	return func(yield func(at place, f api.Form) bool) {
		for i, p := range s.prems {
			if !yield(place{prem: i}, p.Concl) {
				return
			}
		}
		for i, p := range s.prems {
			for k, h := range p.Hyps {
				if h.Some && !yield(place{i, k + 1}, h.Form) {
					return
				}
			}
		}
		yield(place{prem: len(s.prems)}, s.concl)
	}
}

// right reports whether all formulas of a step are right.
func (s step) right() bool {
	for _, f := range s.formulas() {
		if !syntax.Right(f) {
			return false
		}
	}
	return !slices.ContainsFunc(s.prems, func(p Got) bool {
		return slices.ContainsFunc(p.Rest, func(f api.Form) bool { return !syntax.Right(f) })
	})
}

// judge finds the first fault of a step (it is zero if there is none), and what it matches with otherwise.
func (s step) judge() (match.Binding, Fault) {
	if f := s.numbers(); f != (Fault{}) {
		return match.Binding{}, f
	}
	b, f := s.matches()
	if f != (Fault{}) {
		return match.Binding{}, f
	}
	for i := range s.prems {
		for _, check := range s.conditions(i, b) {
			if f := check(); f != (Fault{}) {
				return match.Binding{}, f
			}
		}
	}
	return b, Fault{}
}

// numbers is the fault that there are more or fewer premises, or assumptions of one, than the rule has.
func (s step) numbers() Fault {
	if len(s.prems) != len(s.rule.Prems) {
		return Fault{Kind: FaultPrems}
	}
	for i, p := range s.prems {
		if len(p.Hyps) != len(s.rule.Prems[i].Hyps) {
			return Fault{Kind: FaultPrems, Prem: i}
		}
	}
	return Fault{}
}

// schema is the schema that a place has in the rule.
func (s step) schema(at place) api.Form {
	if at.prem == len(s.rule.Prems) {
		return s.rule.Concl
	}
	return schemasOf(s.rule.Prems[at.prem])[at.index]
}

// matches is what the step matches with, or the fault that it does not.
func (s step) matches() (match.Binding, Fault) {
	var pairs []match.Pair
	var places []place
	for at, f := range s.formulas() {
		pairs = append(pairs, match.Pair{Schema: s.schema(at), Form: f})
		places = append(places, at)
	}
	b, i, e := match.Matches(pairs, match.Binding{})
	if e != api.OK {
		return match.Binding{}, Fault{FaultMatch, places[i].prem, places[i].index}
	}
	return b, Fault{}
}

// conditions is what is asked of a premise when the step matches, in order: each finds its fault, which is zero if there is none.
func (s step) conditions(prem int, b match.Binding) []func() Fault {
	p, got := s.rule.Prems[prem], s.prems[prem]
	fresh, known := match.Term(b, p.Fresh)
	free := func(f api.Form) bool { return known && slices.Contains(subst.Free(f), fresh.Name) }
	// fault is the fault with an index, unless there is no such index.
	fault := func(kind uint8, index int) Fault {
		if index < 0 {
			return Fault{}
		}
		return Fault{kind, prem, index}
	}
	return []func() Fault{
		func() Fault { return fault(FaultVar, indexIf(known && !syntax.Variable(fresh.Name))) },
		func() Fault { return fault(FaultConcl, indexIf(free(s.concl))) },
		func() Fault { return fault(FaultRest, slices.IndexFunc(got.Rest, free)) },
		func() Fault {
			return fault(FaultBound, slices.IndexFunc(b.Forms, func(f match.FormBind) bool { return free(f.Form) }))
		},
		func() Fault { return fault(FaultClosed, indexIf(p.Closed && len(got.Rest) > 0)) },
	}
}

// indexIf is the index of a fault that has no other one than 0, or -1 if there is no fault.
func indexIf(violated bool) int {
	if violated {
		return 0
	}
	return -1
}

package rule_test

import (
	"maps"
	"math/rand/v2"
	"slices"
	"strings"
	"testing"

	"lyceum/api"
	"lyceum/match"
	"lyceum/rule"
	"lyceum/subst"
	"lyceum/syntax"
)

// more are rules with fresh names and closed premises beside those of the library.
var more = []string{
	allI, someE, someE,
	"fresh ?a ?A[?a/x] / fresh ?b ?B[?b/x] => all x (?A & ?B)", "fresh ?a ?A[?a/x] / fresh ?a ?B[?a/x] => all x (?A & ?B)",
	"some x ?A / closed fresh ?a {?A[?a/x]} ?C => ?C", "some x ?A / some x ?B / fresh ?b {?A[?a/x]; ?B[?b/x]} ?C / closed fresh ?a {?A[?a/x]; ?C} ?B[?a/x] => ?C",
	"some x some y ?A / {?B} ?B[?t/x] & some x ?B / fresh ?a {?B[?a/x]; ?B[?b/y]} ?C => ?C", "?B / fresh ?a all y ?A[?a/x] => all x ?A | ?B", "fresh ?a {P(?t)} S(?t, ?a) -> ?A[?a/x] / closed ?D => all x (?A & ?D)",
}

// drawer draws formulas, rules and steps.
type drawer struct{ *rand.Rand }

func (d drawer) pick(l ...string) string { return l[d.IntN(len(l))] }

// term is a term; holes are placeholders that it may have.
func (d drawer) term(depth int, holes ...string) api.Term {
	switch k := d.IntN(10); {
	case k < 3 && depth > 0:
		return function("f", d.term(depth-1, holes...))
	case k == 3:
		return function("c")
	case k < 8 && len(holes) > 0:
		return variable(d.pick(holes...))
	}
	return variable(d.pick("x", "y", "x1", "x2"))
}

// form is a formula.
func (d drawer) form(depth int, holes ...string) api.Form {
	k := d.IntN(12)
	if depth == 0 {
		k %= 5
	}
	switch {
	case k == 0:
		return atom("Q")
	case k < 3:
		return atom("P", d.term(1, holes...))
	case k < 5:
		return atom("S", d.term(1, holes...), d.term(1, holes...))
	case k == 5:
		return not(d.form(depth-1, holes...))
	case k < 8:
		return api.Form{Op: uint8(int(api.OpAnd) + d.IntN(4)), Sub: []api.Form{d.form(depth-1, holes...), d.form(depth-1, holes...)}}
	}
	return api.Form{Op: uint8(int(api.OpAll) + d.IntN(2)), Name: d.pick("x", "y", "x1"), Sub: []api.Form{d.form(depth-1, holes...)}}
}

// forms is some formulas.
func (d drawer) forms(most int) []api.Form {
	var l []api.Form
	for range d.IntN(most + 1) {
		l = append(l, d.form(1))
	}
	return l
}

// rule is one of the rules.
func (d drawer) rule() api.Rule {
	k := d.IntN(len(library) + 4*len(more))
	if k < len(library) {
		return ruleOf(library[k])
	}
	return ruleOf(more[k%len(more)])
}

// metas is the metavariables of a rule.
func metas(r api.Rule) []string {
	set := map[string]bool{}
	add := func(f api.Form) {
		for _, name := range match.Metas(f) {
			set[name] = true
		}
	}
	add(r.Concl)
	for _, p := range r.Prems {
		add(p.Concl)
		for _, h := range p.Hyps {
			add(h)
		}
	}
	return slices.Sorted(maps.Keys(set))
}

// binding is a binding of all metavariables of a rule, and one of those that are no Fresh of it, of which some that stand in its conclusion may be missing.
func (d drawer) binding(r api.Rule) (match.Binding, match.Binding) {
	var b, less match.Binding
	for _, name := range metas(r) {
		leave := d.IntN(2) == 0 && slices.Contains(match.Metas(r.Concl), name)
		if name[1] < 'a' {
			f := match.FormBind{Name: name, Form: d.form(2)}
			if d.IntN(3) > 0 {
				f.Form = d.form(2, "?x")
			}
			b.Forms = append(b.Forms, f)
			if !leave {
				less.Forms = append(less.Forms, f)
			}
			continue
		}
		t := match.TermBind{Name: name, Term: d.term(1)}
		b.Terms = append(b.Terms, t)
		if !leave && !slices.ContainsFunc(r.Prems, func(p api.Prem) bool { return p.Fresh == name }) {
			less.Terms = append(less.Terms, t)
		}
	}
	return b, less
}

// step is a step that Back makes by a rule: its premises with all that is discharged, and assumptions beside it in which no fresh name is free.
func (d drawer) step() (api.Rule, api.Form, []rule.Got, match.Binding) {
	for {
		r := d.rule()
		b, less := d.binding(r)
		concl, e := match.Fill(r.Concl, b)
		if e != api.OK {
			continue
		}
		var taken []string
		rest := make([][]api.Form, len(r.Prems))
		for i, p := range r.Prems {
			if !p.Closed {
				rest[i] = d.forms(2)
			}
			for _, f := range rest[i] {
				taken = append(taken, subst.Free(f)...)
			}
		}
		prems, known, e := rule.Back(r, concl, less, taken)
		if e != api.OK {
			continue
		}
		var l []rule.Got
		for i, p := range prems {
			g := rule.Got{Concl: p.Concl, Rest: rest[i]}
			for _, h := range p.Hyps {
				g.Hyps = append(g.Hyps, rule.Hyp{Some: true, Form: h})
			}
			l = append(l, g)
		}
		return r, concl, l, known
	}
}

// changed is a step whose formulas are changed.
func changed(concl api.Form, l []rule.Got, change func(f api.Form) api.Form) (api.Form, []rule.Got) {
	var r []rule.Got
	for _, g := range l {
		h := rule.Got{Concl: change(g.Concl)}
		for _, y := range g.Hyps {
			if y.Some {
				y.Form = change(y.Form)
			}
			h.Hyps = append(h.Hyps, y)
		}
		for _, f := range g.Rest {
			h.Rest = append(h.Rest, change(f))
		}
		r = append(r, h)
	}
	return change(concl), r
}

// renamed is a formula that is equal to another one up to bound names.
func (d drawer) renamed(f api.Form) api.Form {
	r := api.Form{Op: f.Op, Name: f.Name, Args: f.Args}
	for _, p := range f.Sub {
		r.Sub = append(r.Sub, d.renamed(p))
	}
	if f.Op == api.OpAll || f.Op == api.OpSome {
		name := d.pick("x", "y", "x1", "x2", "z")
		if p, e := subst.Put(r.Sub[0], f.Name, variable(name)); e == api.OK && (name == f.Name || !slices.Contains(subst.Free(r.Sub[0]), name)) {
			r.Name, r.Sub[0] = name, p
		}
	}
	return r
}

// plain is a formula with variables of their own instead of placeholders.
func plain(f api.Form) api.Form {
	r := api.Form{Op: f.Op, Name: f.Name, Args: plainTerms(f.Args)}
	for _, p := range f.Sub {
		r.Sub = append(r.Sub, plain(p))
	}
	return r
}

func plainTerms(l []api.Term) []api.Term {
	var r []api.Term
	for _, t := range l {
		name := t.Name
		if rest, marked := strings.CutPrefix(name, "?"); marked && t.Var {
			name = rest + "99"
		}
		r = append(r, api.Term{Var: t.Var, Name: name, Args: plainTerms(t.Args)})
	}
	return r
}

// within reports whether all that a binding says is said by another one, up to bound names.
func within(b, c match.Binding) bool {
	for _, f := range b.Forms {
		if g, found := match.Form(c, f.Name); !found || !subst.Alpha(plain(f.Form), plain(g)) {
			return false
		}
	}
	for _, t := range b.Terms {
		if u, found := match.Term(c, t.Name); !found || !syntax.SameTerm(t.Term, u) {
			return false
		}
	}
	return true
}

// stepText is a text of a step.
func stepText(concl api.Form, l []rule.Got) string {
	s := ""
	for _, g := range l {
		s += "{"
		for _, h := range g.Hyps {
			if !h.Some {
				s += "- "
			} else {
				s += text(h.Form) + "; "
			}
		}
		s += "} " + text(g.Concl) + " with "
		for _, f := range g.Rest {
			s += text(f) + "; "
		}
		s += " / "
	}
	return s + "=> " + text(concl)
}

// P8.4: what Back returns is accepted, whatever else is assumed; bound names do not matter; less may be discharged, and assumed.
func TestBackIsAccepted(t *testing.T) {
	d := drawer{rand.New(rand.NewPCG(8, 1))}
	fresh := 0
	for range 6000 {
		r, concl, l, known := d.step()
		check := func(what string, concl api.Form, l []rule.Got) {
			t.Helper()
			b, f, e := rule.Apply(r, concl, l)
			if f != (rule.Fault{}) || e != api.OK || !within(b, known) {
				t.Fatalf("%s: %s by %s => %s: %v, %v, %d; known %v", what, stepText(concl, l), premsText(r.Prems), text(r.Concl), b, f, e, known)
			}
		}
		check("all", concl, l)
		fresh += len(known.Terms)
		change, others := changed(concl, l, d.renamed)
		check("renamed", change, others)
		for i, g := range others {
			for k := range g.Hyps {
				if d.IntN(2) == 0 {
					others[i].Hyps[k] = rule.Hyp{Form: d.form(0)}
				}
			}
			others[i].Rest = g.Rest[:d.IntN(len(g.Rest)+1)]
		}
		check("less", change, others)
	}
	if fresh < 2000 {
		t.Error("too few fresh names:", fresh)
	}
}

// free reports whether a variable is free in a formula.
func free(name string, f api.Form) bool {
	if (f.Op == api.OpAll || f.Op == api.OpSome) && f.Name == name {
		return false
	}
	return inTerms(name, f.Args) || slices.ContainsFunc(f.Sub, func(p api.Form) bool { return free(name, p) })
}

func inTerms(name string, l []api.Term) bool {
	return slices.ContainsFunc(l, func(t api.Term) bool { return t.Var && t.Name == name || inTerms(name, t.Args) })
}

// order is the order in which faults of names and assumptions are looked for.
func order(a, b rule.Fault) int {
	switch {
	case a.Prem != b.Prem:
		return a.Prem - b.Prem
	case a.Kind != b.Kind:
		return int(a.Kind) - int(b.Kind)
	}
	return a.Index - b.Index
}

// faultOf is the first fault of a step with the right numbers of premises and assumptions: all are listed, and the first one is taken.
func faultOf(r api.Rule, concl api.Form, l []rule.Got) (match.Binding, rule.Fault) {
	var pairs []match.Pair
	var ends []rule.Fault
	add := func(s, f api.Form, prem, index int) {
		pairs = append(pairs, match.Pair{Schema: s, Form: f})
		ends = append(ends, rule.Fault{Kind: rule.FaultMatch, Prem: prem, Index: index})
	}
	for i, g := range l {
		add(r.Prems[i].Concl, g.Concl, i, 0)
	}
	for i, g := range l {
		for k, h := range g.Hyps {
			if h.Some {
				add(r.Prems[i].Hyps[k], h.Form, i, k+1)
			}
		}
	}
	add(r.Concl, concl, len(l), 0)
	b, at, e := match.Matches(pairs, match.Binding{})
	if e != api.OK {
		return match.Binding{}, ends[at]
	}
	var faults []rule.Fault
	for i, g := range l {
		if r.Prems[i].Closed && len(g.Rest) > 0 {
			faults = append(faults, rule.Fault{Kind: rule.FaultClosed, Prem: i})
		}
		t, known := match.Term(b, r.Prems[i].Fresh)
		if !known {
			continue
		}
		if !t.Var || t.Name[0] == '?' {
			faults = append(faults, rule.Fault{Kind: rule.FaultVar, Prem: i})
			continue
		}
		if free(t.Name, concl) {
			faults = append(faults, rule.Fault{Kind: rule.FaultConcl, Prem: i})
		}
		for k, f := range g.Rest {
			if free(t.Name, f) {
				faults = append(faults, rule.Fault{Kind: rule.FaultRest, Prem: i, Index: k})
			}
		}
		for k, f := range b.Forms {
			if free(t.Name, f.Form) {
				faults = append(faults, rule.Fault{Kind: rule.FaultBound, Prem: i, Index: k})
			}
		}
	}
	if len(faults) == 0 {
		return b, rule.Fault{}
	}
	return match.Binding{}, slices.MinFunc(faults, order)
}

// spoilt is a step, of which something may be changed; known is what it matches with.
func (d drawer) spoilt(concl api.Form, l []rule.Got, known match.Binding) (api.Form, []rule.Got) {
	concl, l = changed(concl, l, syntax.Copy)
	// Another term instead of a fresh name, or of any: so it may still match.
	names := []string{"x", "y", "x1", "x2"}
	for _, t := range known.Terms {
		if t.Term.Var {
			names = append(names, t.Term.Name, t.Term.Name, t.Term.Name)
		}
	}
	from, to := d.pick(names...), d.term(1)
	for _, f := range known.Forms {
		for _, name := range subst.Free(f.Form) {
			if name[0] != '?' && d.IntN(3) == 0 {
				to = variable(name)
			}
		}
	}
	put := func(f api.Form) api.Form {
		g, e := subst.Put(f, from, to)
		if e != api.OK {
			return f
		}
		return g
	}
	for i := range l {
		switch d.IntN(10) {
		case 0, 1, 2, 3:
			_, changes := changed(concl, l[i:i+1], put)
			l[i].Concl, l[i].Hyps = changes[0].Concl, changes[0].Hyps
		case 4:
			l[i].Concl = put(l[i].Concl)
		case 5:
			l[i].Rest = append(l[i].Rest, d.forms(2)...)
		case 6:
			l[i].Concl = d.form(1)
		}
		for k := range l[i].Hyps {
			l[i].Hyps[k].Some = d.IntN(6) > 0
		}
	}
	switch d.IntN(10) {
	case 0:
		concl = put(concl)
	case 1:
		concl, l = changed(concl, l, put)
	}
	return concl, l
}

// P8.2: the first fault of steps that are changed somewhere; bound names do not matter.
func TestFaultsOfDrawnSteps(t *testing.T) {
	d := drawer{rand.New(rand.NewPCG(8, 2))}
	seen := map[uint8]int{}
	for range 20000 {
		r, concl, l, known := d.step()
		concl, l = d.spoilt(concl, l, known)
		want, fault := faultOf(r, concl, l)
		e := rule.ErrStep
		if fault == (rule.Fault{}) {
			e = api.OK
		}
		seen[fault.Kind]++
		if b, f, h := rule.Apply(r, concl, l); !same(b, want) || f != fault || h != e {
			t.Fatalf("%s by %s => %s: %v, %v, %d; want %v, %v", stepText(concl, l), premsText(r.Prems), text(r.Concl), b, f, h, want, fault)
		}
		other, others := changed(concl, l, d.renamed)
		if b, f, h := rule.Apply(r, other, others); !within(b, want) || !within(want, b) || f != fault || h != e {
			t.Fatalf("%s, renamed, by %s => %s: %v, %v, %d; want %v, %v", stepText(other, others), premsText(r.Prems), text(r.Concl), b, f, h, want, fault)
		}
		// Another number of premises, or of assumptions.
		if k := d.IntN(len(l) + 1); k < len(l) {
			l[k].Hyps = append(l[k].Hyps, rule.Hyp{})
			fault = rule.Fault{Kind: rule.FaultPrems, Prem: k}
		} else {
			l = append(l, rule.Got{Concl: d.form(0)})
			fault = rule.Fault{Kind: rule.FaultPrems}
		}
		if b, f, h := rule.Apply(r, concl, l); !same(b, match.Binding{}) || f != fault || h != rule.ErrStep {
			t.Fatalf("%s by %s => %s: %v, %v, %d; want %v", stepText(concl, l), premsText(r.Prems), text(r.Concl), b, f, h, fault)
		}
	}
	for kind := range rule.FaultClosed + 1 {
		if kind != rule.FaultPrems && seen[kind] < 20 {
			t.Error("kind", kind, "was seen so often:", seen[kind])
		}
	}
}

// P8.3: what Back returns is what was filled in, and its fresh names are free in nothing that they were not to be free in.
func TestBackFills(t *testing.T) {
	d := drawer{rand.New(rand.NewPCG(8, 3))}
	seen := map[api.Errno]int{}
	for range 10000 {
		r := d.rule()
		b, less := d.binding(r)
		concl, e := match.Fill(r.Concl, b)
		if e != api.OK {
			concl = d.form(2)
		}
		var taken []string
		for range d.IntN(4) {
			taken = append(taken, d.pick("x", "y", "x1", "x2", "x3"))
		}
		prems, known, e := rule.Back(r, concl, less, taken)
		seen[e]++
		start, g := match.Match(r.Concl, concl, less)
		if (g != api.OK) != (e == rule.ErrStep) {
			t.Fatal(text(concl), premsText(r.Prems), e, g)
		}
		if g != api.OK {
			continue
		}
		// The fresh names one by one, each the least that is not free in anything.
		for _, p := range r.Prems {
			if _, found := match.Term(start, p.Fresh); found || p.Fresh == "" {
				continue
			}
			name := ""
			for _, name = range []string{"x1", "x2", "x3", "x4", "x5", "x6", "x7", "x8"} {
				if !slices.Contains(taken, name) && !free(name, concl) && !slices.ContainsFunc(start.Forms, func(f match.FormBind) bool { return free(name, f.Form) }) && !slices.ContainsFunc(start.Terms, func(t match.TermBind) bool { return inTerms(name, []api.Term{t.Term}) }) {
					break
				}
			}
			start.Terms = append(start.Terms, match.TermBind{Name: p.Fresh, Term: variable(name)})
			slices.SortFunc(start.Terms, func(a, b match.TermBind) int { return strings.Compare(a.Name, b.Name) })
		}
		var want []api.Prem
		first := api.OK
		fill := func(f api.Form) api.Form {
			g, e := match.Fill(f, start)
			if first == api.OK {
				first = e
			}
			return g
		}
		for _, p := range r.Prems {
			q := api.Prem{Concl: fill(p.Concl), Closed: p.Closed}
			for _, h := range p.Hyps {
				q.Hyps = append(q.Hyps, fill(h))
			}
			if t, found := match.Term(start, p.Fresh); found {
				q.Fresh = t.Name
			}
			want = append(want, q)
		}
		if first != api.OK {
			start, want = match.Binding{}, nil
		}
		if e != first || !same(known, start) || premsText(prems) != premsText(want) {
			t.Fatalf("%s by %s => %s: %s, %v, %d; want %s, %v, %d", text(concl), premsText(r.Prems), text(r.Concl), premsText(prems), known, e, premsText(want), start, first)
		}
	}
	for _, e := range []api.Errno{api.OK, match.ErrScope, rule.ErrStep} {
		if seen[e] < 100 {
			t.Error("error", e, "was seen so often:", seen[e])
		}
	}
}

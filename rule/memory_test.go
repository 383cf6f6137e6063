package rule_test

import (
	"slices"
	"strconv"
	"testing"

	"lyceum/api"
	"lyceum/match"
	"lyceum/rule"
)

// memory goes through all that values have in memory, the spare capacity of their lists too: spelt is a text of it, and twice tells whether two lists are the same. If it spoils, nothing in the lists is left.
type memory struct {
	spelt string
	seen  map[any]bool
	twice bool
	spoil bool
}

// listed goes through a list.
func listed[T any](m *memory, l []T, each func(v T), spoilt T) {
	m.spelt += "("
	if cap(l) > 0 {
		first := &l[:1][0]
		m.twice = m.twice || m.seen[first]
		m.seen[first] = true
	}
	for i, v := range l[:cap(l)] {
		each(v)
		if m.spoil {
			l[:cap(l)][i] = spoilt
		}
	}
	m.spelt += ")"
}

func (m *memory) terms(l []api.Term) {
	listed(m, l, m.term, api.Term{Name: "spoilt"})
}

func (m *memory) term(t api.Term) {
	m.spelt += strconv.FormatBool(t.Var) + strconv.Quote(t.Name)
	m.terms(t.Args)
}

func (m *memory) forms(l []api.Form) {
	listed(m, l, m.form, api.Form{Name: "spoilt"})
}

func (m *memory) form(f api.Form) {
	m.spelt += strconv.Itoa(int(f.Op)) + strconv.Quote(f.Name)
	m.terms(f.Args)
	m.forms(f.Sub)
}

func (m *memory) prems(l []api.Prem) {
	listed(m, l, func(p api.Prem) {
		m.spelt += strconv.Quote(p.Fresh) + strconv.FormatBool(p.Closed)
		m.form(p.Concl)
		m.forms(p.Hyps)
	}, api.Prem{Fresh: "spoilt"})
}

func (m *memory) gots(l []rule.Got) {
	listed(m, l, func(g rule.Got) {
		m.form(g.Concl)
		listed(m, g.Hyps, func(h rule.Hyp) {
			m.spelt += strconv.FormatBool(h.Some)
			m.form(h.Form)
		}, rule.Hyp{Form: api.Form{Name: "spoilt"}})
		m.forms(g.Rest)
	}, rule.Got{})
}

func (m *memory) binding(b match.Binding) {
	listed(m, b.Forms, func(f match.FormBind) {
		m.spelt += strconv.Quote(f.Name)
		m.form(f.Form)
	}, match.FormBind{Name: "spoilt"})
	listed(m, b.Terms, func(t match.TermBind) {
		m.spelt += strconv.Quote(t.Name)
		m.term(t.Term)
	}, match.TermBind{Name: "spoilt"})
}

func (m *memory) strings(l []string) {
	listed(m, l, func(s string) { m.spelt += strconv.Quote(s) }, "spoilt")
}

// roomy is a list with spare capacity.
func roomy[T any](l []T) []T { return append(make([]T, 0, len(l)+3), l...) }

func roomyTerms(l []api.Term) []api.Term {
	l = roomy(l)
	for i := range l {
		l[i].Args = roomyTerms(l[i].Args)
	}
	return l
}

func roomyForm(f api.Form) api.Form {
	return api.Form{Op: f.Op, Name: f.Name, Args: roomyTerms(f.Args), Sub: roomyForms(f.Sub)}
}

// roomyForms is a list of formulas in memory with spare capacity, in which equal neighbours share it.
func roomyForms(l []api.Form) []api.Form {
	l = roomy(l)
	for i, f := range l {
		if l[i] = roomyForm(f); i > 0 && text(f) == text(l[i-1]) {
			l[i] = l[i-1]
		}
	}
	return l
}

// arguments are those of both functions.
type arguments struct {
	r     api.Rule
	concl api.Form
	l     []rule.Got
	b     match.Binding
	taken []string
}

func argumentsOf(r, step, known string, taken ...string) arguments {
	a := arguments{r: ruleOf(r), b: binding(known), taken: roomy(taken)}
	a.concl, a.l = stepOf(step)
	a.concl, a.r.Concl = roomyForm(a.concl), roomyForm(a.r.Concl)
	a.r.Prems, a.l, a.b.Forms, a.b.Terms = roomy(a.r.Prems), roomy(a.l), roomy(a.b.Forms), roomy(a.b.Terms)
	for i, p := range a.r.Prems {
		a.r.Prems[i].Concl, a.r.Prems[i].Hyps = roomyForm(p.Concl), roomyForms(p.Hyps)
	}
	for i, g := range a.l {
		a.l[i].Concl, a.l[i].Rest, a.l[i].Hyps = roomyForm(g.Concl), roomyForms(g.Rest), roomy(g.Hyps)
		for k, h := range g.Hyps {
			a.l[i].Hyps[k].Form = roomyForm(h.Form)
		}
	}
	for i, f := range a.b.Forms {
		a.b.Forms[i].Form = roomyForm(f.Form)
	}
	for i, t := range a.b.Terms {
		a.b.Terms[i].Term.Args = roomyTerms(t.Term.Args)
	}
	return a
}

// spelt is a text of all that the arguments have in memory.
func (a arguments) spelt() string {
	m := memory{seen: map[any]bool{}}
	m.form(a.r.Concl)
	m.prems(a.r.Prems)
	m.form(a.concl)
	m.gots(a.l)
	m.binding(a.b)
	m.strings(a.taken)
	return m.spelt
}

// Results share no memory with arguments, and no parts of a result do; arguments stay as they are.
func TestMemory(t *testing.T) {
	const (
		bE    = "?B / " + someE
		known = "?A: S(?x, f(z)); ?B: R & R; ?C: Q(f(z)); ?D: P(f(z), f(z)); ?s: f(f(z)); ?t: g(f(z), f(z))"
	)
	for i, s := range []struct {
		rule, step string
		kind       uint8
		back       api.Errno
	}{
		{bE, "R & R / some x S(x, f(z)) / {S(y, f(z))} Q(f(z)) with R(f(x)); R(f(x)) => Q(f(z))", 0, api.OK},
		{bE, "R & R / some x S(x, f(z)) / {S(c, f(z))} Q(f(z)) with R(f(x)); R(f(x)) => Q(f(z))", rule.FaultVar, api.OK},
		{bE, "R & R / some x S(x, f(z)) / {S(z, f(z))} Q(f(z)) with R(f(x)); R(f(x)) => Q(f(z))", rule.FaultConcl, api.OK},
		{bE, "R & R / some x S(x, f(z)) / {S(y, f(z))} Q(f(z)) with R(f(x)); R(f(y)) => Q(f(z))", rule.FaultRest, api.OK},
		{bE, "R(y) & R(y) / some x S(x, f(z)) / {S(y, f(z))} Q(f(z)) with R(f(x)); R(f(x)) => Q(f(z))", rule.FaultBound, api.OK},
		{bE, "R & R / some x S(x, f(z)) / Q(f(z)) => Q(f(z))", rule.FaultPrems, api.OK},
		{bE, "R & R / some x S(x, f(z)) / {S(y, f(z))} Q(f(z)) => R | Q(f(z))", rule.FaultMatch, rule.ErrStep},
		{"closed ?D & ?D => ?C", "P(f(z), f(z)) & P(f(z), f(z)) with P(f(z)); P(f(z)) => Q(f(z))", rule.FaultClosed, api.OK},
		{"P(f(?t)) & P(f(?t)) / {?C; ?C; ?B} ?C => ?C & ?B & ?B", "P(f(f(z))) & P(f(f(z))) with R(f(z)); R(f(z)) / {-; Q(f(z)); R & R} Q(f(z)) with R(f(z)); R(f(z)) => Q(f(z)) & (R & R) & (R & R)", 0, api.OK},
		{"?C / ?F & ?F => ?C", "Q(f(z)) / R & R => Q(f(z))", 0, api.ErrNone},
	} {
		a := argumentsOf(s.rule, s.step, known, "x1", "x3", "y")
		want := a.spelt()
		b, f, e := rule.Apply(a.r, a.concl, a.l)
		l, c, h := rule.Back(a.r, a.concl, a.b, a.taken)
		if f.Kind != s.kind || (e == api.OK) != (s.kind == 0) || h != s.back {
			t.Errorf("row %d: %v, %d, %d", i, f, e, h)
		}
		m := memory{seen: map[any]bool{}}
		m.binding(b)
		m.binding(c)
		m.prems(l)
		if a.spelt() != want {
			t.Errorf("row %d: arguments are changed", i)
		}
		if m.twice {
			t.Errorf("row %d: parts of the results share memory", i)
		}
		m = memory{seen: map[any]bool{}, spoil: true}
		m.binding(b)
		m.binding(c)
		m.prems(l)
		if a.spelt() != want {
			t.Errorf("row %d: the results share memory with the arguments", i)
		}
	}
}

// Calls do not depend on earlier ones, and the order of what is taken does not matter.
func TestNothingIsKept(t *testing.T) {
	taken := []string{"x1", "x2", "y", "x4"}
	for range 3 {
		backs(t, someE, "Q", "?A: P(?x)", "x1 x2 y x4", "some x P(x) / fresh x3 {P(x3)} Q", "?A: P(?x); ?C: Q; ?a: x3", api.OK)
		rejects(t, someE, "some x P(x) / {P(y)} Q(y) => Q(y)", rule.FaultConcl, 1, 0)
		slices.Reverse(taken)
		if l, _, e := rule.Back(ruleOf(someE), form("Q"), binding("?A: P(?x)"), taken); premsText(l) != "some x P(x) / fresh x3 {P(x3)} Q" || e != api.OK {
			t.Error(premsText(l), e)
		}
		accepts(t, someE, "some x P(x) / {P(y)} Q => Q", "?A: P(?x); ?C: Q; ?a: y")
		if rule.Right(ruleOf("{?A} P => P")) || !rule.Right(ruleOf(someE)) {
			t.Error("Right")
		}
	}
}

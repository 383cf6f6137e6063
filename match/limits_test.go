package match_test

import (
	"slices"
	"strconv"
	"strings"
	"testing"

	"lyceum/api"
	"lyceum/match"
	"lyceum/syntax"
)

// bushy is a term of so many nodes whose depth is small.
func bushy(nodes int) api.Term {
	t := function("a")
	for rest := nodes - 1; rest > 0; {
		part := min((nodes+2)/4, rest)
		t.Args = append(t.Args, bushy(part))
		rest -= part
	}
	return t
}

// conj is the conjunction of formulas, of small depth: it has a node more for each but the first.
func conj(l ...api.Form) api.Form {
	if len(l) == 1 {
		return l[0]
	}
	return and(conj(l[:len(l)/2]...), conj(l[len(l)/2:]...))
}

// big is a formula of an odd number of nodes, whose depth is small.
func big(nodes int) api.Form { return conj(slices.Repeat([]api.Form{atom("P")}, (nodes+1)/2)...) }

// bound is a binding of a formula and a term.
func bound(f api.Form, u api.Term) match.Binding {
	return match.Binding{Forms: []match.FormBind{{Name: "?A", Form: f}}, Terms: []match.TermBind{{Name: "?t", Term: u}}}
}

// terms is a binding of a term alone.
func terms(u api.Term) match.Binding {
	return match.Binding{Terms: []match.TermBind{{Name: "?t", Term: u}}}
}

// P7.3: what is filled has at most 400 nodes.
func TestFillNodes(t *testing.T) {
	a := function("a")
	marked := func(n int) api.Form { return atom("Q", slices.Repeat([]api.Term{variable("?x")}, n)...) }
	for i, row := range []struct {
		schema api.Form
		b      match.Binding
		nodes  int
	}{
		{and(meta("?A"), atom("Q")), bound(big(397), a), 399},
		{and(meta("?A"), not(atom("Q"))), bound(big(397), a), 400},
		{and(meta("?A"), not(not(atom("Q")))), bound(big(397), a), 401},
		{and(meta("?A"), meta("?A")), bound(big(199), a), 399},
		{not(and(meta("?A"), meta("?A"))), bound(big(199), a), 400},
		{not(not(and(meta("?A"), meta("?A")))), bound(big(199), a), 401},
		{and(meta("?A"), meta("?A")), bound(big(201), a), 403},
		{atom("Q", variable("?t")), terms(bushy(399)), 400},
		{atom("Q", variable("?t")), terms(bushy(400)), 401},
		{atom("Q", function("f", variable("?t"))), terms(bushy(398)), 400},
		{atom("Q", function("f", variable("?t"))), terms(bushy(399)), 401},
		{atom("Q", variable("?t"), variable("x"), variable("?t")), terms(bushy(199)), 400},
		{atom("Q", variable("?t"), variable("x"), variable("?t")), terms(bushy(200)), 402},
		{all("x", atom("Q", variable("?t"))), terms(bushy(398)), 400},
		{all("x", atom("Q", variable("?t"))), terms(bushy(399)), 401},
		{inst("?A", "?t", "x"), bound(marked(1), bushy(399)), 400},
		{inst("?A", "?t", "x"), bound(marked(1), bushy(400)), 401},
		{inst("?A", "?t", "x"), bound(marked(3), bushy(133)), 400},
		{inst("?A", "?t", "x"), bound(marked(4), bushy(100)), 401},
		{inst("?A", "?t", "x"), bound(atom("Q", function("f", variable("?x"), variable("?x"))), bushy(199)), 400},
		{inst("?A", "?t", "x"), bound(atom("Q", function("f", variable("?x"), variable("?x"))), bushy(200)), 402},
		{inst("?A", "?t", "x"), bound(big(399), bushy(1000)), 399},
		{not(inst("?A", "?t", "x")), bound(big(399), bushy(1000)), 400},
		{not(not(inst("?A", "?t", "x"))), bound(big(399), a), 401},
		// An OpInst has more nodes than the least formula.
		{conj(append(slices.Repeat([]api.Form{inst("?A", "?t", "x")}, 80), big(399-160))...), bound(atom("P"), a), 0},
		{conj(append(slices.Repeat([]api.Form{inst("?A", "?t", "x")}, 80), big(399-320))...), bound(atom("P"), a), 239},
	} {
		f, e := match.Fill(row.schema, row.b)
		switch {
		case row.nodes == 0 && e != api.ErrArg, row.nodes > api.MaxNodes && e != api.ErrLong, row.nodes > 0 && row.nodes <= api.MaxNodes && (e != api.OK || syntax.Nodes(f) != row.nodes):
			t.Errorf("row %d: %d nodes, %d; want %d", i, syntax.Nodes(f), e, row.nodes)
		case e != api.OK && (f.Op != 0 || f.Name != "" || len(f.Args)+len(f.Sub) > 0):
			t.Errorf("row %d: %v", i, f)
		}
	}
}

// P7.3: what is filled has a depth of at most 40.
func TestFillDepth(t *testing.T) {
	a, x := function("a"), variable("?x")
	for i, row := range []struct {
		schema api.Form
		b      match.Binding
		depth  int
	}{
		{nots(20, meta("?A")), bound(nots(19, atom("P")), a), 40},
		{nots(21, meta("?A")), bound(nots(19, atom("P")), a), 41},
		{nots(39, meta("?A")), bound(atom("P"), a), 40},
		{nots(39, meta("?A")), bound(atom("P", a), a), 41},
		{nots(30, atom("P", variable("?t"))), terms(wraps(8, a)), 40},
		{nots(30, atom("P", variable("?t"))), terms(wraps(9, a)), 41},
		{nots(30, atom("P", wraps(4, variable("?t")))), terms(wraps(4, a)), 40},
		{nots(30, atom("P", wraps(4, variable("?t")))), terms(wraps(5, a)), 41},
		{nots(20, inst("?A", "?t", "x")), bound(nots(9, atom("P", x)), wraps(9, a)), 40},
		{nots(20, inst("?A", "?t", "x")), bound(nots(9, atom("P", x)), wraps(10, a)), 41},
		{nots(20, inst("?A", "?t", "x")), bound(nots(19, atom("P")), wraps(10, a)), 40},
		// The terms of an OpInst have a depth of their own, which goes.
		{nots(38, inst("?A", "?t", "x")), bound(not(atom("P")), a), 40},
		{nots(38, inst("?A", "?t", "x")), bound(not(atom("P", a)), a), 41},
	} {
		f, e := match.Fill(row.schema, row.b)
		if row.depth > api.MaxDepth && (e != api.ErrLong || f.Op != 0) || row.depth <= api.MaxDepth && (e != api.OK || syntax.Depth(f) != row.depth) {
			t.Errorf("row %d: depth %d, %d; want %d", i, syntax.Depth(f), e, row.depth)
		}
	}
}

// P7.3: the limits of terms: as the only one of an OpAtom.
func TestFillTermLimits(t *testing.T) {
	a := function("a")
	for i, row := range []struct {
		t, u api.Term
		e    api.Errno
	}{
		{variable("?t"), bushy(399), api.OK},
		{variable("?t"), bushy(400), api.ErrLong},
		{function("f", variable("?t")), bushy(398), api.OK},
		{function("f", variable("?t")), bushy(399), api.ErrLong},
		{variable("?t"), wraps(38, a), api.OK},
		{variable("?t"), wraps(39, a), api.ErrLong},
		{wraps(30, variable("?t")), wraps(8, a), api.OK},
		{wraps(30, variable("?t")), wraps(9, a), api.ErrLong},
		{bushy(399), a, api.OK},
		{bushy(400), a, api.ErrArg},
		{wraps(38, a), a, api.OK},
		{wraps(39, a), a, api.ErrArg},
	} {
		got, e := match.FillTerm(row.t, terms(row.u))
		if e != row.e || e == api.OK && !syntax.Term(got) || e != api.OK && (got.Name != "" || len(got.Args) > 0) {
			t.Errorf("row %d: %v, %d; want %d", i, got, e, row.e)
		}
	}
}

// P7.3: ErrLong is the last error, however large it would be.
func TestFillLongLast(t *testing.T) {
	deep, wide := wraps(1<<16-10, variable("?x")), bushy(100000)
	both := match.Binding{Terms: []match.TermBind{{Name: "?s", Term: variable("?x")}, {Name: "?t", Term: wide}}}
	many := conj(slices.Repeat([]api.Form{atom("P", variable("?t"))}, 133)...)
	for i, row := range []struct {
		schema api.Form
		b      match.Binding
		e      api.Errno
	}{
		{atom("P", variable("?t")), terms(deep), match.ErrScope},
		{all("x", atom("P", variable("?t"))), terms(deep), api.ErrLong},
		{all("x", atom("P", variable("?t"), variable("?s"))), terms(deep), api.ErrNone},
		{inst("?A", "?t", "y"), bound(atom("P", variable("?y")), deep), match.ErrScope},
		{all("x", inst("?A", "?t", "y")), bound(atom("P", variable("?y")), deep), api.ErrLong},
		{all("x", inst("?A", "?t", "y")), bound(atom("P", variable("?x")), deep), api.OK},
		{many, terms(wide), api.ErrLong},
		{and(many, meta("?A")), terms(wide), api.ErrNone},
		{and(atom("Q", variable("?t")), meta("?A")), terms(wide), api.ErrNone},
		{and(atom("Q", variable("?t")), atom("P", variable("?s"))), both, match.ErrScope},
		{and(atom("P", variable("?s")), atom("Q", variable("?t"))), both, match.ErrScope},
		{all("x", and(atom("P", variable("?s")), atom("Q", variable("?t")))), both, api.ErrLong},
		{nots(39, meta("?A")), bound(atom("P", variable("?y")), wide), match.ErrScope},
		{nots(39, meta("?A")), bound(atom("P", variable("y")), wide), api.ErrLong},
	} {
		f, e := match.Fill(row.schema, row.b)
		if e != row.e || e != api.OK && (f.Op != 0 || f.Name != "" || len(f.Args)+len(f.Sub) > 0) {
			t.Errorf("row %d: %d; want %d", i, e, row.e)
		}
	}
}

// P7.1 and P7.2: the limits of layer 2; terms of bindings have none.
func TestLimits(t *testing.T) {
	a := function("a")
	for i, row := range []struct {
		b    match.Binding
		want bool
	}{
		{bound(big(399), a), true},
		{bound(not(big(399)), a), true},
		{bound(not(not(big(399))), a), false},
		{bound(big(401), a), false},
		{bound(atom("P", bushy(399)), a), true},
		{bound(atom("P", bushy(400)), a), false},
		{bound(atom("P", function("f", variable("?x"), bushy(397))), a), true},
		{bound(atom("P", function("f", variable("?x"), bushy(398))), a), false},
		{bound(nots(39, atom("P")), a), true},
		{bound(nots(39, atom("P", variable("?x"))), a), false},
		{bound(nots(40, atom("P")), a), false},
		{terms(bushy(100000)), true},
		{terms(wraps(1<<16-10, variable("?x"))), true},
		{terms(wraps(1<<16-10, variable("?A"))), false},
		{terms(wraps(1<<16-10, function("f", a, a, a, a, a))), false},
	} {
		if got := match.Valid(row.b); got != row.want {
			t.Errorf("row %d: %v", i, got)
		}
		e := api.ErrArg
		if row.want {
			e = api.OK
		}
		if _, _, d := match.Matches(nil, row.b); d != e {
			t.Errorf("row %d: %d", i, d)
		}
		if _, d := match.Fill(atom("P"), row.b); d != e {
			t.Errorf("row %d: %d", i, d)
		}
	}
	for i, row := range []struct {
		schema, f api.Form
		e         api.Errno
	}{
		{meta("?A"), not(big(399)), api.OK},
		{meta("?A"), big(401), api.ErrArg},
		{meta("?A"), nots(39, atom("P")), api.OK},
		{meta("?A"), nots(40, atom("P")), api.ErrArg},
		{nots(39, meta("?A")), nots(39, atom("P")), api.OK},
		{nots(40, meta("?A")), nots(39, atom("P")), api.ErrArg},
		{not(big(399)), not(big(399)), api.OK},
		{big(401), big(399), api.ErrArg},
		{atom("P", variable("?t")), atom("P", bushy(399)), api.OK},
		{all("x", meta("?A")), all("x123456789012345", atom("P", variable("x123456789012345"))), api.OK},
		{all("x", meta("?A")), all("x1234567890123456", atom("P")), api.ErrArg},
	} {
		if _, e := match.Match(row.schema, row.f, match.Binding{}); e != row.e {
			t.Errorf("row %d: %d; want %d", i, e, row.e)
		}
	}
}

// Names of 16 bytes have placeholders of 17.
func TestLongNames(t *testing.T) {
	x, mark := "x123456789012345", "?x123456789012345"
	s := and(all(x, meta("?A")), inst("?A", "?t", x))
	f := and(all("y", atom("R", variable("y"), variable(x))), atom("R", function("a"), variable(x)))
	b, e := match.Match(s, f, match.Binding{})
	if e != api.OK || !match.Valid(b) || len(b.Forms) != 1 || b.Forms[0].Form.Args[0].Name != mark || b.Forms[0].Form.Args[1].Name != x || len(b.Terms) != 1 || b.Terms[0].Term.Name != "a" {
		t.Fatal(b, e)
	}
	if g, e := match.Fill(s, b); e != api.OK || text(g) != "all x1 R(x1, "+x+") & R(a, "+x+")" {
		t.Error(text(g), e)
	}
	if g, e := match.Fill(meta("?A"), b); e != match.ErrScope {
		t.Error(text(g), e)
	}
	if match.Valid(bound(atom("P", variable("?x1234567890123456")), function("a"))) {
		t.Error("a placeholder of no variable")
	}
}

// The limits of the whole allow 2^16 levels.
func TestDeep(t *testing.T) {
	const levels = 1 << 16
	f := atom("P", variable("?t"))
	for i := range levels - 2 {
		f = all("x"+strconv.Itoa(i), f)
	}
	if got := match.Metas(f); !slices.Equal(got, []string{"?t"}) {
		t.Error(got)
	}
	u := wraps(levels-2, variable("?s"))
	if got := match.Metas(atom("P", u)); !slices.Equal(got, []string{"?s"}) {
		t.Error(got)
	}
	b := bound(f, u)
	if g, found := match.Form(b, "?A"); !found || !syntax.Same(f, g) {
		t.Error("Form of a deep formula")
	}
	if v, found := match.Term(b, "?t"); !found || !syntax.SameTerm(u, v) {
		t.Error("Term of a deep term")
	}
	if match.Valid(b) {
		t.Error("a deep formula is right")
	}
	if r, e := match.Match(f, atom("P"), match.Binding{}); bindingText(r) != "" || e != api.ErrArg {
		t.Error(e)
	}
	if r, e := match.Match(atom("P"), f, match.Binding{}); bindingText(r) != "" || e != api.ErrArg {
		t.Error(e)
	}
	if g, e := match.Fill(f, match.Binding{}); g.Op != 0 || e != api.ErrArg {
		t.Error(e)
	}
	// A deep term that is known is compared, and kept.
	v := wraps(levels-10, variable("x"))
	r, e := match.Match(atom("P", variable("?s")), atom("P", variable("x")), terms(v))
	if got, _ := match.Term(r, "?t"); e != api.OK || len(r.Terms) != 2 || !syntax.SameTerm(got, v) {
		t.Error(len(r.Terms), e)
	}
	if r, e := match.Match(atom("P", variable("?t")), atom("P", wraps(30, variable("x"))), terms(v)); bindingText(r) != "" || e != match.ErrMatch {
		t.Error(e)
	}
	if r, e := match.Match(inst("?A", "?t", "x"), atom("P", wraps(30, variable("x"))), bound(atom("P", variable("?x")), v)); bindingText(r) != "" || e != match.ErrMatch {
		t.Error(e)
	}
}

// A formula that is far too large, as its parts stand in the same memory, is soon known not to be valid.
func TestFarTooLarge(t *testing.T) {
	for _, f := range []api.Form{atom("P"), atom("P", variable("?x"))} {
		for range 100 {
			f = and(f, f)
		}
		if match.Valid(bound(f, function("a"))) {
			t.Error("valid")
		}
	}
	u := variable("?x")
	for range 100 {
		u = function("f", u, u)
	}
	if match.Valid(bound(atom("P", u), function("a"))) {
		t.Error("valid")
	}
}

// Formulas of the limits' size are matched: quantifiers at every level, and as many pairs as one likes.
func TestLarge(t *testing.T) {
	s, f := meta("?A"), atom("P", variable("y"), variable("x1"), variable("y38"))
	for i := range 38 {
		s, f = all("x"+strconv.Itoa(i), s), all("y"+strconv.Itoa(i), f)
	}
	matches := func(l []match.Pair, want string) {
		t.Helper()
		if b, _, e := match.Matches(l, match.Binding{}); e != api.OK || bindingText(b) != want {
			t.Error(bindingText(b), e)
		}
	}
	matches([]match.Pair{{Schema: s, Form: f}}, "?A: P(y, x1, y38)")
	f = atom("P")
	for i := range 36 {
		f = and(f, atom("P", variable("y"+strconv.Itoa(i)), variable("y"+strconv.Itoa(35-i))))
	}
	f = api.Form{Op: api.OpSome, Name: "z", Sub: []api.Form{f}}
	matches(slices.Repeat([]match.Pair{{Schema: meta("?A"), Form: f}, {Schema: atom("Q", variable("?t")), Form: atom("Q", function("a"))}}, 3000), "?A: "+text(f)+"; ?t: a")
	// A long chain of quantifiers that give way one after another.
	f = atom("Q", variable("?x"))
	for i := range 17 {
		x := "x" + strconv.Itoa(17-i)
		f = all(x, and(f, atom("P", variable(x), variable("y"))))
	}
	f = all("y", f)
	u := function("f", variable("y"), function("g", variable("x2"), variable("x3"), variable("x5")))
	g, e := match.Fill(inst("?A", "?t", "x"), bound(f, u))
	if e != api.OK || !strings.Contains(text(g), "Q(f(y, g(x2, x3, x5)))") {
		t.Fatal(text(g), e)
	}
	if !agrees(inst("?A", "?t", "x"), g, bound(f, u), nil) {
		t.Error(text(g))
	}
}

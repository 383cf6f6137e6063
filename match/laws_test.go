package match_test

import (
	"math/rand/v2"
	"slices"
	"strconv"
	"strings"
	"testing"

	"lyceum/api"
	"lyceum/match"
	"lyceum/subst"
	"lyceum/syntax"
)

// said is what is said instead of a variable.
type said struct{ name, text string }

// nameless is a text of a formula in which a variable is what is said of it (the last word counts), and one that is bound within the formula is told by the level of its quantifier. Two formulas have the same if and only if they are equal up to bound names; nothing is captured, as what is said has no names of quantifiers.
func nameless(f api.Form, level int, l []said) string {
	s := "(" + strconv.Itoa(int(f.Op))
	if f.Op == api.OpAll || f.Op == api.OpSome {
		level++
		l = append(slices.Clone(l), said{f.Name, "#" + strconv.Itoa(level)})
	} else {
		s += f.Name
	}
	for _, t := range f.Args {
		s += namelessTerm(t, l)
	}
	for _, p := range f.Sub {
		s += nameless(p, level, l)
	}
	return s + ")"
}

func namelessTerm(t api.Term, l []said) string {
	s := " " + t.Name
	if t.Var {
		for _, w := range slices.Backward(l) {
			if w.name == t.Name {
				return " " + w.text
			}
		}
	}
	for _, a := range t.Args {
		s += namelessTerm(a, l) + ","
	}
	return s + "."
}

// none is said of a variable whose quantifier a placeholder would not mean.
const none = "none"

// outside adds what is said of a variable that a quantifier of a schema binds: its placeholder. Of the variables whose placeholder now means this quantifier, there is nothing to say.
func outside(l []said, own, actual string) []said {
	r := slices.Clone(l)
	for i, w := range r {
		if w.text == "?"+own+"." {
			r[i].text = none
		}
	}
	return append(r, said{actual, "?" + own + "."})
}

// agrees tells whether a schema matches a formula with a binding, as the chapter says it: what l says of the formula's variables makes the image.
func agrees(s, f api.Form, b match.Binding, l []said) bool {
	switch s.Op {
	case api.OpMeta:
		g, found := match.Form(b, s.Name)
		return found && nameless(g, 0, nil) == nameless(f, 0, l)
	case api.OpInst:
		g, found := match.Form(b, s.Name)
		mark := "?" + s.Args[0].Name
		t, known := match.Term(b, s.Args[1].Name)
		if slices.Contains(subst.Free(g), mark) && !known {
			return false
		}
		return found && nameless(g, 0, []said{{mark, strings.TrimPrefix(namelessTerm(t, nil), " ")}}) == nameless(f, 0, l)
	}
	quantifier := s.Op == api.OpAll || s.Op == api.OpSome
	if s.Op != f.Op || len(s.Args) != len(f.Args) || len(s.Sub) != len(f.Sub) || !quantifier && s.Name != f.Name {
		return false
	}
	for i := range s.Args {
		if schemaTerm(s.Args[i], b, l) != namelessTerm(f.Args[i], l) {
			return false
		}
	}
	if quantifier {
		l = outside(l, s.Name, f.Name)
	}
	for i := range s.Sub {
		if !agrees(s.Sub[i], f.Sub[i], b, l) {
			return false
		}
	}
	return true
}

// schemaTerm is the text of a term of a schema.
func schemaTerm(t api.Term, b match.Binding, l []said) string {
	if t.Var {
		if u, found := match.Term(b, t.Name); found {
			return namelessTerm(u, nil)
		}
		for _, w := range l {
			if w.text == "?"+t.Name+"." {
				return " " + w.text
			}
		}
	}
	s := " " + t.Name
	for _, a := range t.Args {
		s += schemaTerm(a, b, l) + ","
	}
	return s + "."
}

// images is the image of each part of a formula that stands at a metavariable of formulas in a schema, under its Name, and all terms in the images of the formula's terms and of what stands at metavariables. What an image cannot say has an impossible name.
func images(s, f api.Form, l []said, forms map[string][]api.Form, terms map[string]api.Term) {
	name := func(v string) string {
		for _, w := range slices.Backward(l) {
			if w.name == v {
				return strings.TrimSuffix(w.text, ".")
			}
		}
		return v
	}
	image := renamedFree(f, name)
	if s.Op == api.OpMeta || s.Op == api.OpInst {
		forms[s.Name] = append(forms[s.Name], image)
		collect(image, terms)
		return
	}
	collect(api.Form{Args: image.Args}, terms)
	if s.Op == api.OpAll || s.Op == api.OpSome {
		l = outside(l, s.Name, f.Name)
	}
	for i := range min(len(s.Sub), len(f.Sub)) {
		images(s.Sub[i], f.Sub[i], l, forms, terms)
	}
}

// renamedFree is a formula whose free variables have other names, which none of its quantifiers has.
func renamedFree(f api.Form, name func(s string) string) api.Form {
	r := api.Form{Op: f.Op, Name: f.Name}
	in := name
	if f.Op == api.OpAll || f.Op == api.OpSome {
		in = func(s string) string {
			if s == f.Name {
				return s
			}
			return name(s)
		}
	}
	for _, t := range f.Args {
		r.Args = append(r.Args, renamedTerm(t, in))
	}
	for _, p := range f.Sub {
		r.Sub = append(r.Sub, renamedFree(p, in))
	}
	return r
}

// collect collects all terms of a formula by their texts.
func collect(f api.Form, terms map[string]api.Term) {
	var add func(l []api.Term)
	add = func(l []api.Term) {
		for _, t := range l {
			terms[namelessTerm(t, nil)] = t
			add(t.Args)
		}
	}
	add(f.Args)
	for _, p := range f.Sub {
		collect(p, terms)
	}
}

// drawer draws small schemas, formulas and bindings, with so few names that they often meet.
type drawer struct{ *rand.Rand }

func (d drawer) pick(l ...string) string { return l[d.IntN(len(l))] }

func (d drawer) variable() string { return d.pick("x", "y", "x1") }

// term is a term; more is what it may have beside variables.
func (d drawer) term(depth int, more ...string) api.Term {
	switch k := d.IntN(10); {
	case k < 3 && depth > 0:
		return function("f", d.term(depth-1, more...))
	case k == 3:
		return function("a")
	case k < 7 && len(more) > 0:
		return variable(d.pick(more...))
	}
	return variable(d.variable())
}

// form is a formula, or a schema, whose terms may have more than variables.
func (d drawer) form(depth int, schema bool, more ...string) api.Form {
	k := d.IntN(10)
	if depth == 0 {
		k %= 3
	}
	switch {
	case k == 0 || !schema && k < 3:
		return atom("R", d.term(1, more...), d.term(1, more...))
	case k == 1:
		return inst(d.pick("?A", "?B"), d.pick("?t", "?s"), d.pick("x", "y"))
	case k == 2:
		return meta(d.pick("?A", "?A", "?B"))
	case k < 7:
		return api.Form{Op: api.OpAll, Name: d.variable(), Sub: []api.Form{d.form(depth-1, schema, more...)}}
	}
	return and(d.form(depth-1, schema, more...), d.form(depth-1, schema, more...))
}

// schema is a schema, in which there may be metavariables of terms.
func (d drawer) schema(depth int) api.Form { return d.form(depth, true, "?t", "?s") }

// binding is a binding of some metavariables.
func (d drawer) binding(depth int, names ...string) match.Binding {
	var b match.Binding
	for _, name := range names {
		if name[1] >= 'a' {
			b.Terms = append(b.Terms, match.TermBind{Name: name, Term: d.term(1, "?x", "?y")})
		} else {
			b.Forms = append(b.Forms, match.FormBind{Name: name, Form: d.form(depth, false, "?x", "?y")})
		}
	}
	return b
}

// shuffledNames is a formula that is equal to another one up to bound names.
func (d drawer) shuffledNames(f api.Form) api.Form {
	r := api.Form{Op: f.Op, Name: f.Name, Args: f.Args}
	for _, p := range f.Sub {
		r.Sub = append(r.Sub, d.shuffledNames(p))
	}
	if f.Op == api.OpAll || f.Op == api.OpSome {
		name := d.pick("x", "y", "x1", "x2", "z")
		if p, e := subst.Put(r.Sub[0], f.Name, variable(name)); e == api.OK && (name == f.Name || !slices.Contains(subst.Free(r.Sub[0]), name)) {
			r.Name, r.Sub[0] = name, p
		}
	}
	return r
}

// spoiltSomewhere is a formula with another one of its terms, or parts.
func (d drawer) spoiltSomewhere(f api.Form) api.Form {
	r := syntax.Copy(f)
	at := &r
	for len(at.Sub) > 0 && d.IntN(5) > 0 {
		at = &at.Sub[d.IntN(len(at.Sub))]
	}
	if at.Op == api.OpAtom {
		at.Args[d.IntN(len(at.Args))] = d.term(1)
	} else {
		*at = d.form(1, false)
	}
	return r
}

// filled draws a binding until it can fill a schema with it.
func (d drawer) filled(schema api.Form) (api.Form, match.Binding, bool) {
	for range 20 {
		b := d.binding(2, "?A", "?B", "?s", "?t")
		if f, e := match.Fill(schema, b); e == api.OK {
			return f, b, true
		}
	}
	return api.Form{}, match.Binding{}, false
}

// inMetas reports whether a metavariable of formulas stands as an OpMeta in a schema.
func inMetas(s api.Form, name string) bool {
	return s.Op == api.OpMeta && s.Name == name || slices.ContainsFunc(s.Sub, func(p api.Form) bool { return inMetas(p, name) })
}

// hasInst reports whether a schema has an OpInst of this metavariable of terms whose placeholder is in what its metavariable of formulas stands for.
func hasInst(s api.Form, name string, b match.Binding) bool {
	if s.Op == api.OpInst && s.Args[1].Name == name {
		f, _ := match.Form(b, s.Name)
		return slices.Contains(subst.Free(f), "?"+s.Args[0].Name)
	}
	return slices.ContainsFunc(s.Sub, func(p api.Form) bool { return hasInst(p, name, b) })
}

// inArgs reports whether a metavariable of terms stands in the terms of an atom.
func inArgs(s api.Form, name string) bool {
	return s.Op == api.OpAtom && slices.Contains(match.Metas(s), name) || slices.ContainsFunc(s.Sub, func(p api.Form) bool { return inArgs(p, name) })
}

// needed checks that a binding has just what its schemas need, and what there was before.
func needed(t *testing.T, schema api.Form, before, b match.Binding) {
	t.Helper()
	for _, name := range []string{"?A", "?B"} {
		f, found := match.Form(b, name)
		g, was := match.Form(before, name)
		if found != (was || inMetas(schema, name)) || was && text(f) != text(g) {
			t.Errorf("%s, from %q: %q", text(schema), bindingText(before), bindingText(b))
		}
	}
	for _, name := range []string{"?s", "?t"} {
		f, found := match.Term(b, name)
		g, was := match.Term(before, name)
		if found != (was || inArgs(schema, name) || hasInst(schema, name, b)) || was && termText(f) != termText(g) {
			t.Errorf("%s, from %q: %q", text(schema), bindingText(before), bindingText(b))
		}
	}
}

// others reports whether some binding, with what stands at metavariables and with terms that are there, makes a schema match a formula.
func others(s, f api.Form, before match.Binding) bool {
	forms, terms := map[string][]api.Form{}, map[string]api.Term{}
	images(s, f, nil, forms, terms)
	terms["any"] = function("any")
	b := match.Binding{Forms: slices.Clone(before.Forms), Terms: slices.Clone(before.Terms)}
	for _, name := range []string{"?A", "?B"} {
		if _, found := match.Form(b, name); !found && len(forms[name]) > 0 {
			b.Forms = append(b.Forms, match.FormBind{Name: name, Form: forms[name][0]})
		}
	}
	n := len(b.Terms)
	for _, u := range terms {
		for _, v := range terms {
			b.Terms = b.Terms[:n]
			for name, w := range map[string]api.Term{"?s": u, "?t": v} {
				if _, found := match.Term(before, name); !found {
					b.Terms = append(b.Terms, match.TermBind{Name: name, Term: w})
				}
			}
			if agrees(s, f, b, nil) {
				return true
			}
		}
	}
	return false
}

// P7.2: what is found makes the schema match, as the chapter says it, and has no more than is needed; if nothing is found, there is nothing.
func TestMatchMeansMatch(t *testing.T) {
	d := drawer{rand.New(rand.NewPCG(7, 1))}
	count := map[api.Errno]int{}
	for i := range 30000 {
		s := d.schema(1 + i%4)
		f, b, ok := d.filled(s)
		if !ok || i%5 == 0 {
			f, b = d.form(1+i%4, false), match.Binding{}
		}
		switch i % 3 {
		case 0:
			f = d.spoiltSomewhere(f)
		case 1:
			f = d.shuffledNames(f)
		}
		before := match.Binding{}
		if i%4 == 0 && len(b.Forms) > 0 {
			before = match.Binding{Forms: b.Forms[d.IntN(2):], Terms: b.Terms[d.IntN(3):]}
		}
		got, e := match.Match(s, f, before)
		count[e]++
		switch e {
		case api.OK:
			if !match.Valid(got) || !agrees(s, f, got, nil) {
				t.Fatalf("%s with %s, from %q: %q", text(s), text(f), bindingText(before), bindingText(got))
			}
			needed(t, s, before, got)
		case match.ErrMatch:
			if others(s, f, before) {
				t.Fatalf("%s with %s, from %q: nothing is found", text(s), text(f), bindingText(before))
			}
		case match.ErrLater:
			_, a := match.Form(before, "?A")
			_, b := match.Form(before, "?B")
			if (a || inMetas(s, "?A") || !slices.Contains(match.Metas(s), "?A")) && (b || inMetas(s, "?B") || !slices.Contains(match.Metas(s), "?B")) {
				t.Fatalf("%s with %s, from %q: all is known", text(s), text(f), bindingText(before))
			}
		default:
			t.Fatal(text(s), text(f), e)
		}
	}
	if count[api.OK] < 3000 || count[match.ErrMatch] < 3000 || count[match.ErrLater] < 1000 {
		t.Error(count)
	}
}

// agreed checks that what is found is what was filled in, up to bound names, as far as it is found.
func agreed(t *testing.T, schema api.Form, b, got match.Binding) {
	t.Helper()
	for _, f := range got.Forms {
		if g, _ := match.Form(b, f.Name); nameless(f.Form, 0, nil) != nameless(g, 0, nil) {
			t.Fatalf("%s with %q: %q", text(schema), bindingText(b), bindingText(got))
		}
	}
	for _, u := range got.Terms {
		if v, _ := match.Term(b, u.Name); !syntax.SameTerm(u.Term, v) {
			t.Fatalf("%s with %q: %q", text(schema), bindingText(b), bindingText(got))
		}
	}
}

// P7.4: what has been filled is matched, with what was filled in; filling with what has been found gives the formula.
func TestFilledMatches(t *testing.T) {
	d := drawer{rand.New(rand.NewPCG(7, 2))}
	n := 0
	for i := range 20000 {
		s := d.schema(1 + i%5)
		f, b, ok := d.filled(s)
		if !ok {
			continue
		}
		if !syntax.Right(f) || !agrees(s, f, b, nil) {
			t.Fatalf("%s with %q: %s", text(s), bindingText(b), text(f))
		}
		if got, e := match.Match(s, f, b); e != api.OK || bindingText(got) != bindingText(b) {
			t.Fatalf("%s with %q does not match %s: %q, %d", text(s), bindingText(b), text(f), bindingText(got), e)
		}
		got, e := match.Match(s, f, match.Binding{})
		if e == match.ErrLater {
			continue
		}
		if e != api.OK {
			t.Fatalf("%s with %q does not match %s: %d", text(s), bindingText(b), text(f), e)
		}
		agreed(t, s, b, got)
		if g, e := match.Fill(s, got); e != api.OK || !subst.Alpha(f, g) {
			t.Fatalf("%s with %q: %s, %s, %d", text(s), bindingText(b), text(f), text(g), e)
		}
		n++
	}
	if n < 3000 {
		t.Error(n)
	}
}

// P7.4: formulas that are equal up to bound names are matched alike.
func TestMatchAlike(t *testing.T) {
	d := drawer{rand.New(rand.NewPCG(7, 3))}
	n := 0
	for i := range 20000 {
		s := d.schema(1 + i%4)
		f, _, ok := d.filled(s)
		if !ok || i%4 == 0 {
			f = d.form(1+i%4, false)
		}
		g := d.shuffledNames(f)
		if !subst.Alpha(f, g) {
			t.Fatal(text(f), text(g))
		}
		a, e := match.Match(s, f, match.Binding{})
		b, h := match.Match(s, g, match.Binding{})
		if e != h || len(a.Forms) != len(b.Forms) || len(a.Terms) != len(b.Terms) {
			t.Fatalf("%s: %s with %q, %d; %s with %q, %d", text(s), text(f), bindingText(a), e, text(g), bindingText(b), h)
		}
		agreed(t, s, a, b)
		if e == api.OK && text(f) != text(g) {
			n++
		}
	}
	if n < 2000 {
		t.Error(n)
	}
}

// P7.4: a metavariable that stands inside and outside of a quantifier does not have its variable.
func TestInsideAndOutside(t *testing.T) {
	d := drawer{rand.New(rand.NewPCG(7, 4))}
	n := 0
	for range 5000 {
		f := d.form(2, false)
		y := d.variable()
		s := and(meta("?A"), all("x", meta("?A")))
		got, e := match.Match(s, and(f, all(y, f)), match.Binding{})
		free := slices.Contains(subst.Free(f), y)
		if free != (e == match.ErrMatch) || !free && e != api.OK {
			t.Fatalf("%s with %s: %q, %d", text(f), y, bindingText(got), e)
		}
		if a, found := match.Form(got, "?A"); found && slices.Contains(subst.Free(a), "?x") {
			t.Fatalf("%s with %s: %s", text(f), y, text(a))
		}
		if free {
			n++
		}
	}
	if n < 1000 || n > 4000 {
		t.Error(n)
	}
}

// P7.3: terms are filled as in a formula.
func TestFilledTerms(t *testing.T) {
	d := drawer{rand.New(rand.NewPCG(7, 5))}
	for range 5000 {
		u := d.term(2, "?s", "?t")
		b := d.binding(1, [][]string{nil, {"?s"}, {"?t"}, {"?s", "?t"}}[d.IntN(4)]...)
		got, e := match.FillTerm(u, b)
		f, h := match.Fill(atom("Q", u), b)
		if e != h || e == api.OK && !syntax.SameTerm(got, f.Args[0]) {
			t.Fatalf("%s with %q: %s, %d; %s, %d", termText(u), bindingText(b), termText(got), e, text(f), h)
		}
	}
}

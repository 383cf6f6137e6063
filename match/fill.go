package match

// fill.go: formulas and terms in the place of metavariables.

import (
	"slices"

	"lyceum/api"
	"lyceum/subst"
	"lyceum/syntax"
)

// Fill is a schema with formulas and terms in the place of its metavariables.
func Fill(schema api.Form, b Binding) (api.Form, api.Errno) {
	if !syntax.Schema(schema) || !Valid(b) {
		return api.Form{}, api.ErrArg
	}
	k := knowledgeOf(b)
	if e := k.check(schema); e != api.OK {
		return api.Form{}, e
	}
	r := k.fill(place{schema: schema, form: schema})
	if !syntax.Right(r) {
		return api.Form{}, api.ErrLong
	}
	return r, api.OK
}

// FillTerm is a term with terms in the place of its metavariables.
func FillTerm(t api.Term, b Binding) (api.Term, api.Errno) {
	f, e := Fill(api.Form{Op: api.OpAtom, Name: "P", Args: []api.Term{t}}, b)
	if e != api.OK {
		return api.Term{}, e
	}
	return f.Args[0], api.OK
}

// content is what a place becomes, but for its parts: a formula (for what is no metavariable, its terms alone), what is put for names in it, and whether all of this is known.
func (k knowledge) content(p place) (api.Form, []subst.One, bool) {
	switch p.schema.Op {
	case api.OpMeta:
		f, known := k.forms[p.schema.Name]
		return f, nil, known
	case api.OpInst:
		return k.contentInst(p.schema)
	}
	f := alone(p.schema.Args...)
	var l []subst.One
	for _, name := range subst.Free(f) {
		t, known := k.terms[name]
		if p.around.binds(name) {
			t, known = variable(placeholder(name)), true
		}
		if known {
			l = append(l, subst.One{Name: name, Term: t})
		} else if syntax.Meta(name) {
			return api.Form{}, nil, false
		}
	}
	return f, l, true
}

// contentInst is the content of an OpInst.
func (k knowledge) contentInst(inst api.Form) (api.Form, []subst.One, bool) {
	f, known := k.forms[inst.Name]
	mark := placeholder(inst.Args[0].Name)
	if !slices.Contains(subst.Free(f), mark) {
		return f, nil, known
	}
	t, known := k.terms[inst.Args[1].Name]
	return f, []subst.One{{Name: mark, Term: t}}, known
}

// check tells the error of a schema that cannot be filled, but for the depth. All of it is told ahead, so that nothing is made of many long terms.
func (k knowledge) check(schema api.Form) api.Errno {
	left, nodes := false, 0
	for p := range places(schema, schema) {
		f, l, complete := k.content(p)
		if !complete {
			return api.ErrNone
		}
		left = left || leaves(f, l, p.around)
		// Beyond the limit it does not matter how many there are.
		if nodes <= api.MaxNodes {
			nodes += nodesWith(f, l)
		}
	}
	switch {
	case left:
		return ErrScope
	case nodes > api.MaxNodes:
		return api.ErrLong
	}
	return api.OK
}

// leaves reports whether a placeholder of no quantifier around is left in a formula into which terms are put.
func leaves(f api.Form, l []subst.One, around scope) bool {
	names := slices.DeleteFunc(subst.Free(f), func(name string) bool {
		return slices.ContainsFunc(l, func(o subst.One) bool { return o.Name == name })
	})
	for _, o := range l {
		names = append(names, subst.FreeTerm(o.Term)...)
	}
	return slices.ContainsFunc(names, func(name string) bool {
		x, is := ofPlaceholder(name)
		return is && !around.binds(x)
	})
}

// nodesWith is the number of nodes of a formula into which terms are put for names that it does not bind.
func nodesWith(f api.Form, l []subst.One) int {
	n := syntax.Nodes(f)
	for _, o := range l {
		// What holds the term has a node, and the node of the name goes.
		more := syntax.Nodes(alone(o.Term)) - 2
		for p := range places(f, f) {
			n += more * count(p.schema.Args, o.Name)
		}
	}
	return n
}

// count is how often a name stands in terms.
func count(l []api.Term, name string) int {
	n := 0
	for _, t := range l {
		if t.Var && t.Name == name {
			n++
		}
		n += count(t.Args, name)
	}
	return n
}

// fill is what a place becomes.
func (k knowledge) fill(p place) api.Form {
	f, l, _ := k.content(p)
	if p.schema.Op == api.OpMeta || p.schema.Op == api.OpInst {
		r := syntax.Copy(f)
		for _, o := range l {
			put(&r, o.Name, o.Term)
		}
		return r
	}
	r := api.Form{Op: p.schema.Op, Name: p.schema.Name}
	for _, t := range f.Args {
		r.Args = append(r.Args, subst.PutTerm(t, l))
	}
	for i := range p.schema.Sub {
		r.Sub = append(r.Sub, k.fill(p.below(i)))
	}
	if quantifies(r) {
		bind(&r)
	}
	return r
}

// bind changes a quantifier: it binds a variable of its own instead of the placeholder. It needs to be in memory of its own.
func bind(f *api.Form) {
	mark := placeholder(f.Name)
	if inside := subst.Free(f.Sub[0]); slices.Contains(inside, f.Name) {
		f.Name = subst.Fresh(inside)
	}
	put(&f.Sub[0], mark, variable(f.Name))
}

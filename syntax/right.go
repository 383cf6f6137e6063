package syntax

// right.go: which terms, formulas and schemas are right.

import "lyceum/api"

// What the Name of a row is.
const (
	noRow       uint8 = iota // there is no row
	noName                   // empty
	aVariable                // a variable
	aPredicate               // a predicate
	aMetaOfForm              // a metavariable of formulas
)

// row is what an operator asks for: its Name, the least and the greatest number of Args, the number of Sub, and whether it stands in schemas alone.
type row struct {
	name        uint8
	least, most int
	sub         int
	schema      bool
}

// rows has the row of each operator at its index.
var rows = [...]row{
	api.OpAtom:   {name: aPredicate, most: MaxArgs},
	api.OpFalse:  {name: noName},
	api.OpNot:    {name: noName, sub: 1},
	api.OpAnd:    {name: noName, sub: 2},
	api.OpOr:     {name: noName, sub: 2},
	api.OpImp:    {name: noName, sub: 2},
	api.OpIff:    {name: noName, sub: 2},
	api.OpAll:    {name: aVariable, sub: 1},
	api.OpSome:   {name: aVariable, sub: 1},
	api.OpBox:    {name: noName, sub: 1},
	api.OpDia:    {name: noName, sub: 1},
	api.OpNext:   {name: noName, sub: 1},
	api.OpAlways: {name: noName, sub: 1},
	api.OpUntil:  {name: noName, sub: 2},
	api.OpMeta:   {name: aMetaOfForm, schema: true},
	api.OpInst:   {name: aMetaOfForm, least: 2, most: 2, schema: true},
}

// nameCheck returns the check of a row's Name.
func nameCheck(name uint8) func(s string) bool {
	switch name {
	case noName:
		return func(s string) bool { return s == "" }
	case aVariable:
		return Variable
	case aPredicate:
		return Predicate
	case aMetaOfForm:
		return metaOfForms
	}
	return func(string) bool { return false }
}

// rowOf returns the row of an operator; there is none for operators that are not known.
func rowOf(op uint8) row {
	if int(op) < len(rows) {
		return rows[op]
	}
	return row{}
}

// satisfies reports whether a formula satisfies the row of its Op, and its own terms are right; its parts are not looked at.
func satisfies(f api.Form, schema bool) bool {
	r := rowOf(f.Op)
	if r.schema && !schema || !nameCheck(r.name)(f.Name) || len(f.Sub) != r.sub || len(f.Args) < r.least || len(f.Args) > r.most {
		return false
	}
	if f.Op == api.OpInst {
		return variableTerm(f.Args[0]) && metaTerm(f.Args[1])
	}
	for _, t := range f.Args {
		if !rightTerm(t, schema) {
			return false
		}
	}
	return true
}

// variableTerm reports whether a term is a variable.
func variableTerm(t api.Term) bool { return t.Var && len(t.Args) == 0 && Variable(t.Name) }

// metaTerm reports whether a term is a metavariable of terms.
func metaTerm(t api.Term) bool { return t.Var && len(t.Args) == 0 && metaOfTerms(t.Name) }

// rightTerm reports whether a term is right, in a schema or elsewhere.
func rightTerm(t api.Term, schema bool) bool {
	if t.Var {
		return variableTerm(t) || schema && metaTerm(t)
	}
	if !Function(t.Name) || len(t.Args) > MaxArgs {
		return false
	}
	for _, a := range t.Args {
		if !rightTerm(a, schema) {
			return false
		}
	}
	return true
}

// rightForm reports whether a formula is right, as a schema or otherwise.
func rightForm(f api.Form, schema bool) bool {
	if !fits(f, api.MaxNodes, api.MaxDepth) {
		return false
	}
	for _, p := range parts(f) {
		if !satisfies(p, schema) {
			return false
		}
	}
	return true
}

// Term reports whether a term is right.
func Term(t api.Term) bool { return rightTerm(t, false) }

// Right reports whether a formula is right.
func Right(f api.Form) bool { return rightForm(f, false) }

// Schema reports whether a schema is right.
func Schema(f api.Form) bool { return rightForm(f, true) }

package format

// signs.go: how operators are written, and which parts are in brackets.

import "lyceum/api"

// unary is the strength of all operators that do not stand between two formulas.
const unary = 6

// sign is how an operator is written: its sign or its word, whether it has a space behind it where it stands ahead of its part, its strength, and whether it is grouped from the right.
type sign struct {
	text      string
	spaced    bool
	strength  int
	fromRight bool
}

// signs has the sign of each operator at its index. Formulas without parts are written by other rules; they have a strength alone.
var signs = [...]sign{
	api.OpAtom:   {strength: unary},
	api.OpFalse:  {strength: unary},
	api.OpNot:    {text: "~", strength: unary},
	api.OpAnd:    {text: "&", strength: 5},
	api.OpOr:     {text: "|", strength: 4},
	api.OpImp:    {text: "->", strength: 2, fromRight: true},
	api.OpIff:    {text: "<->", strength: 1},
	api.OpAll:    {text: "all", spaced: true, strength: unary},
	api.OpSome:   {text: "some", spaced: true, strength: unary},
	api.OpBox:    {text: "[]", strength: unary},
	api.OpDia:    {text: "<>", strength: unary},
	api.OpNext:   {text: "next", spaced: true, strength: unary},
	api.OpAlways: {text: "always", spaced: true, strength: unary},
	api.OpUntil:  {text: "until", strength: 3, fromRight: true},
	api.OpMeta:   {strength: unary},
	api.OpInst:   {strength: unary},
}

// binary reports whether the part with an index has a sign between two formulas: full texts have it in brackets.
func binary(f api.Form, i int) bool { return signs[f.Sub[i].Op].strength < unary }

// needed reports whether the part with an index would be read as something else if it were not in brackets.
func needed(f api.Form, i int) bool {
	outer, inner := signs[f.Op], signs[f.Sub[i].Op]
	if outer.strength != inner.strength {
		return inner.strength < outer.strength
	}
	// What is grouped from one side needs none on that side; a sign ahead of its only part counts as grouped from the left, where it has none.
	return outer.fromRight == (i == 0)
}

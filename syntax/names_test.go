package syntax_test

import (
	"strings"
	"testing"

	"lyceum/syntax"
)

const (
	digits   = "0123456789"
	lowers   = "abcdefghijklmnopqrstuvwxyz"
	capitals = "ABCDEFGHIJKLMNOPQRSTUVWXYZ"
)

// P2.1: strings that are names of one sort, and of no other; and strings that are none.
func TestNames(t *testing.T) {
	const (
		isVariable = 1 << iota
		isFunction
		isPredicate
		isMeta
	)
	for _, c := range []struct {
		want int
		l    []string
	}{
		{isVariable, []string{"x", "x10", "u", "w2", "v", "y", "z", "x0", "x00", "z9", "u123456789012345"}},
		{isFunction, []string{"a", "s", "t", "next1", "f2G", "al", "alls", "aLL", "nexT", "alwaysA", "somE", "fals", "false0", "t0", "s9Z", "a23456789012345b"}},
		{isPredicate, []string{"A", "P", "Z", "Even2", "All", "False", "Until", "ALWAYS", "X1", "Zu9", "P23456789012345Q"}},
		{isMeta, []string{"?A", "?t", "?a", "?Z", "?Z9", "?f2G", "?Until", "?next1", "?alls", "?P2345678901234Q", "?a2345678901234b"}},
		{0, []string{
			"", "xy", "1x", "x_", "x1y", "xX", "uA", "x ", " x", "until", "until1", "u123456789012345" + "6",
			"all", "some", "false", "next", "always", "a_", "a-b", "a ", "f\x00", "f\u00e9", "\u00e9", "a23456789012345bc",
			"P_", "P ", "P'", "P\u00e9", "\u00c9", "P\xff", "P23456789012345QR", "_", "[", "@", "`", "{", "0", "9", "/", ":",
			"?", "?u", "?x", "?z1", "?1", "??A", "?all", "?some", "?false", "?next", "?always", "?until", "A?", "?A?", "? A", "?A ", "?\u00e9", "?P2345678901234QR", "?a2345678901234bc", "!A",
		}},
	} {
		for _, s := range c.l {
			got := 0
			for i, is := range []func(string) bool{syntax.Variable, syntax.Function, syntax.Predicate, syntax.Meta} {
				if is(s) {
					got |= 1 << i
				}
			}
			if got != c.want {
				t.Errorf("%q is of the sorts %b, want %b", s, got, c.want)
			}
		}
	}
}

// P2.1: each byte, as the first one and as a further one.
func TestNamesByBytes(t *testing.T) {
	for b := range 256 {
		c := string([]byte{byte(b)})
		digit, lower, capital := strings.Contains(digits, c), strings.Contains(lowers, c), strings.Contains(capitals, c)
		variable := lower && c >= "u"
		function := lower && c < "u"
		for _, x := range []struct {
			s           string
			is          func(string) bool
			want        bool
			description string
		}{
			{c, syntax.Variable, variable, "a variable"},
			{c, syntax.Function, function, "a function"},
			{c, syntax.Predicate, capital, "a predicate"},
			{"?" + c, syntax.Meta, function || capital, "a metavariable"},
			{c + "A", syntax.Meta, c == "?", "a metavariable"},
			{"x" + c, syntax.Variable, digit, "a variable"},
			{"f" + c + "a", syntax.Function, digit || lower || capital, "a function"},
			{"Pa" + c, syntax.Predicate, digit || lower || capital, "a predicate"},
			{"?fa" + c, syntax.Meta, digit || lower || capital, "a metavariable"},
			{"?P" + c, syntax.Meta, digit || lower || capital, "a metavariable"},
		} {
			if x.is(x.s) != x.want {
				t.Errorf("whether %q is %s: want %v", x.s, x.description, x.want)
			}
		}
	}
}

// P2.1: names have at most 16 bytes, metavariables with their question mark.
func TestLongNames(t *testing.T) {
	for n := range 40 {
		rest := strings.Repeat("1", n)
		fits := n <= 15
		if syntax.Variable("x"+rest) != fits || syntax.Function("f"+rest) != fits || syntax.Predicate("P"+rest) != fits {
			t.Error("names of", n+1, "bytes")
		}
		if fits := n <= 14; syntax.Meta("?A"+rest) != fits || syntax.Meta("?t"+rest) != fits {
			t.Error("metavariables of", n+2, "bytes")
		}
	}
}

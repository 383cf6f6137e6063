package seed

// mix.go: mixing words, and taking numbers from them.

// step is a step of mixing: x becomes x ^ (x >> shift), then x * factor. The product of factor and back is 1.
type step struct {
	shift        int
	factor, back uint64
}

// The last step has no factor.
var steps = [3]step{
	{30, 0xbf58476d1ce4e5b9, 0x96de1b173f119089},
	{27, 0x94d049bb133111eb, 0x319642b2d24d8ec3},
	{31, 1, 1},
}

// Mix returns the mixed word of x.
func Mix(x uint64) uint64 {
	for _, s := range steps {
		x = (x ^ x>>s.shift) * s.factor
	}
	return x
}

// Unmix returns the word whose mixed word is x.
func Unmix(x uint64) uint64 {
	for i := len(steps) - 1; i >= 0; i-- {
		x = unshift(x*steps[i].back, steps[i].shift)
	}
	return x
}

// unshift returns the word y of which x is y ^ (y >> shift).
func unshift(x uint64, shift int) uint64 {
	// The highest bits of y are those of x; what is known of y tells the next ones.
	y := x
	for known := shift; known < 64; known += shift {
		y = x ^ y>>shift
	}
	return y
}

// Rest returns the rest of a word, and whether it is accepted.
func Rest(w uint64, n int) (int, bool) {
	if n < 1 {
		return 0, false
	}
	m := uint64(n)
	// As many words as 2^64 modulo m, which is -m modulo m, are too many; 2^64 itself is no word.
	over := -m % m
	if over > 0 && w >= -over {
		return 0, false
	}
	return int(w % m), true
}

package seed_test

import (
	"math"
	"math/big"
	"math/bits"
	"testing"

	"lyceum/seed"
)

// last is the greatest word.
const last = math.MaxUint64

// someWords returns words of all sizes, with few and with many bits.
func someWords() []uint64 {
	l := []uint64{0, 1, 2, 5, 0x0123456789abcdef, last}
	for i := range 64 {
		l = append(l, 1<<i, 1<<i-1, ^uint64(1<<i), 0x9e3779b97f4a7c15*uint64(i+1))
	}
	return l
}

// someNumbers returns numbers from 1 on, among them the least and the greatest ones, and those next to powers of 2.
func someNumbers() []int {
	l := []int{10, 1000, math.MaxInt, math.MaxInt - 1, math.MaxInt/3*2 + 1}
	for n := 1; n < 300; n++ {
		l = append(l, n)
	}
	for i := 2; i < 63; i++ {
		l = append(l, 1<<i-1, 1<<i, 1<<i+1)
	}
	return l
}

// P1.1: Mix. The values were worked out apart from this program.
func TestMix(t *testing.T) {
	for _, c := range []struct{ x, want uint64 }{
		{0, 0},
		{1, 0x5692161d100b05e5},
		{2, 0xdbd238973a2b148a},
		{5, 0xb6bf613dbebb45dc},
		{0x0123456789abcdef, 0xb2c058e4ebb5112c},
		{0x9e3779b97f4a7c15, 0xe220a8397b1dcdaf},
		{1 << 63, 0x25c26ea579cea98a},
		{last, 0xb4d055fcf2cbbd7b},
	} {
		if got := seed.Mix(c.x); got != c.want {
			t.Errorf("Mix(%#x) = %#x, want %#x", c.x, got, c.want)
		}
	}
}

// P1.1: each step of mixing, as the chapter says it.
func TestMixSteps(t *testing.T) {
	for _, x := range someWords() {
		want := x
		want ^= want >> 30
		want *= 0xbf58476d1ce4e5b9
		want ^= want >> 27
		want *= 0x94d049bb133111eb
		want ^= want >> 31
		if got := seed.Mix(x); got != want {
			t.Errorf("Mix(%#x) = %#x, want %#x", x, got, want)
		}
	}
}

// P1.1: Unmix.
func TestUnmix(t *testing.T) {
	for _, c := range []struct{ x, want uint64 }{
		{0, 0}, {0xb6bf613dbebb45dc, 5}, {0xb4d055fcf2cbbd7b, last}, {0xe220a8397b1dcdaf, 0x9e3779b97f4a7c15},
	} {
		if got := seed.Unmix(c.x); got != c.want {
			t.Errorf("Unmix(%#x) = %#x, want %#x", c.x, got, c.want)
		}
	}
	for _, x := range someWords() {
		if got := seed.Unmix(seed.Mix(x)); got != x {
			t.Errorf("Unmix(Mix(%#x)) = %#x", x, got)
		}
		if got := seed.Mix(seed.Unmix(x)); got != x {
			t.Errorf("Mix(Unmix(%#x)) = %#x", x, got)
		}
	}
}

// P1.1: Rest.
func TestRest(t *testing.T) {
	for _, c := range []struct {
		w    uint64
		n    int
		want int
		ok   bool
	}{
		{18446744073709551609, 10, 9, true},
		{18446744073709551610, 10, 0, false},
		{18446744073709551611, 10, 0, false},
		{last, 10, 0, false},
		{0, 10, 0, true},
		{27, 10, 7, true},
		{last, 1, 0, true},
		{last, 2, 1, true},
		{last, 1 << 62, 1<<62 - 1, true},
		{last, 3, 0, false},
		{last - 1, 3, 2, true},
		{last - 2, math.MaxInt, math.MaxInt - 1, true},
		{last - 1, math.MaxInt, 0, false},
		{1 << 63, math.MaxInt, 1, true},
		{7, 0, 0, false},
		{0, 0, 0, false},
		{7, -1, 0, false},
		{7, math.MinInt, 0, false},
		{last, -10, 0, false},
	} {
		if got, ok := seed.Rest(c.w, c.n); got != c.want || ok != c.ok {
			t.Errorf("Rest(%d, %d) = %d, %t, want %d, %t", c.w, c.n, got, ok, c.want, c.ok)
		}
	}
}

// P1.1: Rest against numbers of any length.
func TestRestOfAnyLength(t *testing.T) {
	end := new(big.Int).Lsh(big.NewInt(1), 64)
	for _, n := range someNumbers() {
		m := big.NewInt(int64(n))
		top := new(big.Int).Mul(new(big.Int).Div(end, m), m)
		for _, w := range someWords() {
			b := new(big.Int).SetUint64(w)
			want, accepted := 0, b.Cmp(top) < 0
			if accepted {
				want = int(new(big.Int).Mod(b, m).Int64())
			}
			if got, ok := seed.Rest(w, n); got != want || ok != accepted {
				t.Fatalf("Rest(%d, %d) = %d, %t, want %d, %t", w, n, got, ok, want, accepted)
			}
		}
	}
}

// P1.5: all rests have equally many accepted words, and fewer than n words are not accepted.
func TestRestsAreEven(t *testing.T) {
	for _, n := range someNumbers() {
		over := bits.Rem64(1, 0, uint64(n))
		if over >= uint64(n) {
			t.Fatal(n, over)
		}
		first := -over // the first word that is not accepted, or 0 if there is none
		if v, ok := seed.Rest(first-1, n); !ok || v != n-1 {
			t.Errorf("Rest(%d, %d) = %d, %t: the last round of rests is not whole", first-1, n, v, ok)
		}
		if v, ok := seed.Rest(first, n); ok != (over == 0) || v != 0 {
			t.Errorf("Rest(%d, %d) = %d, %t", first, n, v, ok)
		}
		if _, ok := seed.Rest(last, n); ok != (over == 0) {
			t.Errorf("Rest(%d, %d): %t", uint64(last), n, ok)
		}
	}
}

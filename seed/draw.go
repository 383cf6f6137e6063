package seed

// draw.go: numbers, orders and choices that are drawn from a stream.

import "lyceum/api"

// drawable reports whether something may be drawn from an index on. The index behind the last word is one: what needs no words can be drawn there.
func drawable(i int) bool { return i >= 0 && i <= MaxWord }

// Below returns a number below n, and the next index.
func (s Stream) Below(i, n int) (int, int, api.Errno) {
	if !drawable(i) || n < 1 {
		return 0, 0, api.ErrArg
	}
	for ; i < MaxWord; i++ {
		w, _ := s.Word(i)
		if v, ok := Rest(w, n); ok {
			return v, i + 1, api.OK
		}
	}
	return 0, 0, api.ErrFull
}

// drawer returns a closure that draws numbers with below: the first one from the index *at on, each further one from where the one before ended. Behind the draws, *at is the next index.
func drawer(below func(i, n int) (int, int, api.Errno), at *int) func(n int) (int, api.Errno) {
	return func(n int) (int, api.Errno) {
		v, next, e := below(*at, n)
		*at = next
		return v, e
	}
}

// Perm returns an order of the numbers below n, and the next index.
func (s Stream) Perm(i, n int) ([]int, int, api.Errno) {
	if !drawable(i) || n < 0 || n > MaxList {
		return nil, 0, api.ErrArg
	}
	l := make([]int, n)
	for p := range l {
		l[p] = p
	}
	draw := drawer(s.Below, &i)
	for p := n - 1; p > 0; p-- {
		v, e := draw(p + 1)
		if e != api.OK {
			return nil, 0, e
		}
		l[v], l[p] = l[p], l[v]
	}
	return l, i, api.OK
}

// Choose returns k of the numbers below n, and the next index.
func (s Stream) Choose(i, n, k int) ([]int, int, api.Errno) {
	if !drawable(i) || n > MaxList || k < 0 || k > n {
		return nil, 0, api.ErrArg
	}
	var chosen [MaxList]bool
	draw := drawer(s.Below, &i)
	for m := n - k; m < n; m++ {
		v, e := draw(m + 1)
		if e != api.OK {
			return nil, 0, e
		}
		if chosen[v] {
			// Nothing that was drawn before reaches m, so it is not there yet.
			v = m
		}
		chosen[v] = true
	}
	l := make([]int, 0, k)
	for v := range n {
		if chosen[v] {
			l = append(l, v)
		}
	}
	return l, i, api.OK
}

// Weigh returns an index of a list, by the weights of its elements, and the next index.
func (s Stream) Weigh(i int, l []int) (int, int, api.Errno) {
	sum, ok := total(l)
	if !drawable(i) || !ok {
		return 0, 0, api.ErrArg
	}
	draw := drawer(s.Below, &i)
	t, e := draw(sum)
	if e != api.OK {
		return 0, 0, e
	}
	at := 0
	for t >= l[at] {
		t -= l[at]
		at++
	}
	return at, i, api.OK
}

// total returns the sum of a list, and whether its elements are weights of which one can be drawn.
func total(l []int) (int, bool) {
	if len(l) > MaxList {
		return 0, false
	}
	sum := 0
	for _, w := range l {
		if w < 0 || w > MaxWeight {
			return 0, false
		}
		sum += w
	}
	return sum, sum > 0
}

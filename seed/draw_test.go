package seed_test

import (
	"math"
	"slices"
	"testing"

	"lyceum/api"
	"lyceum/seed"
)

// third is the number for which the most words are not accepted: nearly each third one.
const third = 6148914691236517206

// having returns the stream whose word with the index i is w.
func having(w uint64, i int) seed.Stream {
	return seed.Stream{Key: seed.Unmix(w) - uint64(i+1)*0x9e3779b97f4a7c15}
}

// drawn is what a draw of one number returns.
type drawn struct {
	v, next int
	e       api.Errno
}

// drawnList is what a draw of several numbers returns.
type drawnList struct {
	l    []int
	next int
	e    api.Errno
}

func below(s seed.Stream, i, n int) drawn {
	v, next, e := s.Below(i, n)
	return drawn{v, next, e}
}

func weigh(s seed.Stream, i int, l []int) drawn {
	v, next, e := s.Weigh(i, l)
	return drawn{v, next, e}
}

func perm(s seed.Stream, i, n int) drawnList {
	l, next, e := s.Perm(i, n)
	return drawnList{l, next, e}
}

func choose(s seed.Stream, i, n, k int) drawnList {
	l, next, e := s.Choose(i, n, k)
	return drawnList{l, next, e}
}

func (d drawnList) equal(c drawnList) bool {
	return slices.Equal(d.l, c.l) && d.next == c.next && d.e == c.e
}

// P1.3: Below, with values that were worked out apart from this program.
func TestBelow(t *testing.T) {
	for _, c := range []struct {
		i, n int
		want drawn
	}{
		{0, 1, drawn{0, 1, 0}},
		{3, 1, drawn{0, 4, 0}},
		{0, 2, drawn{1, 1, 0}},
		{0, 6, drawn{3, 1, 0}},
		{1, 6, drawn{1, 2, 0}},
		{2, 10, drawn{3, 3, 0}},
		{0, 1000, drawn{317, 1, 0}},
		{0, 1 << 40, drawn{102995917957, 1, 0}},
		{2, math.MaxInt, drawn{594119895343594616, 3, 0}},
		{0, third, drawn{308913025873848111, 1, 0}},
		{1<<40 - 1, 1000, drawn{952, 1 << 40, 0}},
	} {
		if got := below(known, c.i, c.n); got != c.want {
			t.Errorf("Below(%d, %d) = %v, want %v", c.i, c.n, got, c.want)
		}
	}
}

// P1.3: words that are not accepted are passed over.
func TestBelowPassesOver(t *testing.T) {
	for _, c := range []struct {
		w uint64
		n int
	}{{18446744073709551610, 10}, {last, 10}, {last, 3}, {last - 1, math.MaxInt}, {third * 2, third}} {
		for _, i := range []int{0, 1, 77, 1<<40 - 2} {
			s := having(c.w, i)
			next, _ := s.Word(i + 1)
			v, ok := seed.Rest(next, c.n)
			if !ok {
				continue
			}
			if got := below(s, i, c.n); got != (drawn{v, i + 2, api.OK}) {
				t.Errorf("%v.Below(%d, %d) = %v, want %d, %d", s, i, c.n, got, v, i+2)
			}
		}
	}
	if got := below(having(18446744073709551609, 5), 5, 10); got != (drawn{9, 6, api.OK}) {
		t.Error("the last accepted word:", got)
	}
}

// P1.3: the first accepted word is taken, however many are not accepted ahead of it.
func TestBelowIsFirst(t *testing.T) {
	longest := 0
	for key := range uint64(3000) {
		s := seed.New(key)
		at, passed := 4, 0
		v, ok := 0, false
		for ; !ok; at++ {
			w, _ := s.Word(at)
			if v, ok = seed.Rest(w, third); !ok {
				passed++
			}
		}
		longest = max(longest, passed)
		if got := below(s, 4, third); got != (drawn{v, at, api.OK}) {
			t.Errorf("%v.Below(4, %d) = %v, want %d, %d", s, third, got, v, at)
		}
	}
	if longest < 5 {
		t.Error("no stream with a long row of words that are not accepted:", longest)
	}
}

// P1.3: errors of Below, ErrArg ahead of ErrFull.
func TestBelowErrors(t *testing.T) {
	for _, c := range []struct {
		s    seed.Stream
		i, n int
		want api.Errno
	}{
		{known, -1, 6, api.ErrArg},
		{known, math.MinInt, 6, api.ErrArg},
		{known, 1<<40 + 1, 6, api.ErrArg},
		{known, math.MaxInt, 6, api.ErrArg},
		{known, 0, 0, api.ErrArg},
		{known, 0, -1, api.ErrArg},
		{known, 0, math.MinInt, api.ErrArg},
		{known, 1 << 40, 0, api.ErrArg},
		{known, 1 << 40, 6, api.ErrFull},
		{known, 1 << 40, 1, api.ErrFull},
		{having(18446744073709551610, 1<<40-1), 1<<40 - 1, 10, api.ErrFull},
	} {
		if got := below(c.s, c.i, c.n); got != (drawn{0, 0, c.want}) {
			t.Errorf("%v.Below(%d, %d) = %v, want %d", c.s, c.i, c.n, got, c.want)
		}
	}
}

// P1.4: Perm, with values that were worked out apart from this program.
func TestPerm(t *testing.T) {
	for _, c := range []struct {
		i, n int
		want drawnList
	}{
		{3, 0, drawnList{nil, 3, 0}},
		{3, 1, drawnList{[]int{0}, 3, 0}},
		{3, 2, drawnList{[]int{0, 1}, 4, 0}},
		{3, 3, drawnList{[]int{0, 2, 1}, 5, 0}},
		{3, 10, drawnList{[]int{7, 3, 2, 0, 4, 9, 5, 6, 8, 1}, 12, 0}},
		{3, 12, drawnList{[]int{9, 11, 0, 5, 8, 2, 6, 10, 3, 4, 1, 7}, 14, 0}},
		{1 << 40, 0, drawnList{nil, 1 << 40, 0}},
		{1 << 40, 1, drawnList{[]int{0}, 1 << 40, 0}},
	} {
		if got := perm(known, c.i, c.n); !got.equal(c.want) {
			t.Errorf("Perm(%d, %d) = %v, want %v", c.i, c.n, got, c.want)
		}
	}
	got := perm(known, 0, 1000)
	if len(got.l) != 1000 || !slices.Equal(got.l[:5], []int{94, 210, 19, 664, 93}) || !slices.Equal(got.l[995:], []int{521, 435, 75, 565, 317}) || got.next != 999 || got.e != api.OK {
		t.Error("Perm(0, 1000):", got)
	}
	slices.Sort(got.l)
	for p, v := range got.l {
		if p != v {
			t.Fatal("Perm(0, 1000) lacks", p)
		}
	}
}

// P1.4: Perm draws by Below, as the chapter says it; the first word is not accepted for 3.
func TestPermDraws(t *testing.T) {
	for i := range 100 {
		s := having(last, i)
		for n := range 30 {
			want := drawnList{next: i}
			for v := range n {
				want.l = append(want.l, v)
			}
			for p := n - 1; p >= 1; p-- {
				d := below(s, want.next, p+1)
				want.l[p], want.l[d.v] = want.l[d.v], want.l[p]
				want.next = d.next
			}
			if got := perm(s, i, n); !got.equal(want) {
				t.Fatalf("%v.Perm(%d, %d) = %v, want %v", s, i, n, got, want)
			}
		}
		if got := perm(s, i, 3); got.next < i+3 {
			t.Error("Perm does not pass over a word that is not accepted:", got)
		}
	}
}

// P1.4: errors of Perm, ErrArg ahead of ErrFull.
func TestPermErrors(t *testing.T) {
	for _, c := range []struct {
		i, n int
		want api.Errno
	}{
		{-1, 0, api.ErrArg},
		{-1, 5, api.ErrArg},
		{math.MinInt, 5, api.ErrArg},
		{1<<40 + 1, 0, api.ErrArg},
		{math.MaxInt, 5, api.ErrArg},
		{0, -1, api.ErrArg},
		{0, math.MinInt, api.ErrArg},
		{0, 1001, api.ErrArg},
		{0, math.MaxInt, api.ErrArg},
		{1 << 40, 1001, api.ErrArg},
		{1 << 40, -1, api.ErrArg},
		{1 << 40, 2, api.ErrFull},
		{1<<40 - 1, 3, api.ErrFull},
		{1<<40 - 998, 1000, api.ErrFull},
	} {
		if got := perm(known, c.i, c.n); !got.equal(drawnList{e: c.want}) {
			t.Errorf("Perm(%d, %d) = %v, want %d", c.i, c.n, got, c.want)
		}
	}
	if got := perm(known, 1<<40-999, 1000); len(got.l) != 1000 || got.next != 1<<40 || got.e != api.OK {
		t.Error("as many words as are drawn:", got.next, got.e)
	}
}

// P1.4: Choose, with values that were worked out apart from this program.
func TestChoose(t *testing.T) {
	for _, c := range []struct {
		i, n, k int
		want    drawnList
	}{
		{3, 0, 0, drawnList{nil, 3, 0}},
		{3, 5, 0, drawnList{nil, 3, 0}},
		{3, 5, 2, drawnList{[]int{1, 3}, 5, 0}},
		{3, 5, 5, drawnList{[]int{0, 1, 2, 3, 4}, 8, 0}},
		{3, 10, 3, drawnList{[]int{4, 7, 8}, 6, 0}},
		{3, 12, 7, drawnList{[]int{1, 3, 6, 7, 8, 9, 10}, 10, 0}},
		{3, 1000, 6, drawnList{[]int{135, 223, 261, 521, 634, 704}, 9, 0}},
		{0, 4, 4, drawnList{[]int{0, 1, 2, 3}, 4, 0}},
		{1 << 40, 0, 0, drawnList{nil, 1 << 40, 0}},
		{1 << 40, 1000, 0, drawnList{nil, 1 << 40, 0}},
	} {
		if got := choose(known, c.i, c.n, c.k); !got.equal(c.want) {
			t.Errorf("Choose(%d, %d, %d) = %v, want %v", c.i, c.n, c.k, got, c.want)
		}
	}
	got := choose(known, 0, 1000, 500)
	if len(got.l) != 500 || !slices.Equal(got.l[:5], []int{2, 7, 9, 10, 14}) || !slices.Equal(got.l[495:], []int{990, 994, 995, 998, 999}) || got.next != 500 || got.e != api.OK {
		t.Error("Choose(0, 1000, 500):", got)
	}
	all := choose(known, 7, 1000, 1000)
	if len(all.l) != 1000 || all.l[0] != 0 || all.l[999] != 999 || !slices.IsSorted(all.l) || all.next < 1007 {
		t.Error("Choose(7, 1000, 1000):", all)
	}
}

// P1.4: Choose draws by Below, as the chapter says it; the first word is not accepted for 3.
func TestChooseDraws(t *testing.T) {
	for i := range 40 {
		s := having(last, i)
		for n := range 16 {
			for k := range n + 1 {
				want := drawnList{next: i}
				for m := n - k; m <= n-1; m++ {
					d := below(s, want.next, m+1)
					if slices.Contains(want.l, d.v) {
						d.v = m
					}
					want.l, want.next = append(want.l, d.v), d.next
				}
				slices.Sort(want.l)
				if got := choose(s, i, n, k); !got.equal(want) {
					t.Fatalf("%v.Choose(%d, %d, %d) = %v, want %v", s, i, n, k, got, want)
				}
			}
		}
		if got := choose(s, i, 3, 1); got.next < i+2 {
			t.Error("Choose does not pass over a word that is not accepted:", got)
		}
	}
}

// P1.4: errors of Choose, ErrArg ahead of ErrFull.
func TestChooseErrors(t *testing.T) {
	for _, c := range []struct {
		i, n, k int
		want    api.Errno
	}{
		{-1, 5, 2, api.ErrArg},
		{-1, 5, 0, api.ErrArg},
		{math.MinInt, 0, 0, api.ErrArg},
		{1<<40 + 1, 5, 0, api.ErrArg},
		{math.MaxInt, 5, 2, api.ErrArg},
		{0, 5, 6, api.ErrArg},
		{0, 5, -1, api.ErrArg},
		{0, 5, math.MinInt, api.ErrArg},
		{0, -1, 0, api.ErrArg},
		{0, -1, -1, api.ErrArg},
		{0, -2, -3, api.ErrArg},
		{0, math.MinInt, math.MinInt, api.ErrArg},
		{0, 1001, 0, api.ErrArg},
		{0, 1001, 3, api.ErrArg},
		{0, math.MaxInt, math.MaxInt, api.ErrArg},
		{1 << 40, 5, 6, api.ErrArg},
		{1 << 40, 1001, 1, api.ErrArg},
		{1 << 40, 5, 1, api.ErrFull},
		{1 << 40, 1, 1, api.ErrFull},
		{1<<40 - 1, 5, 2, api.ErrFull},
	} {
		if got := choose(known, c.i, c.n, c.k); !got.equal(drawnList{e: c.want}) {
			t.Errorf("Choose(%d, %d, %d) = %v, want %d", c.i, c.n, c.k, got, c.want)
		}
	}
	if got := choose(known, 1<<40-4, 4, 4); !got.equal(drawnList{[]int{0, 1, 2, 3}, 1 << 40, api.OK}) {
		t.Error("as many words as are drawn:", got)
	}
}

// P1.4: Weigh, with values that were worked out apart from this program.
func TestWeigh(t *testing.T) {
	most := slices.Repeat([]int{1 << 40}, 1000)
	for _, c := range []struct {
		i    int
		l    []int
		want drawn
	}{
		{0, []int{1}, drawn{0, 1, 0}},
		{0, []int{0, 5, 0}, drawn{1, 1, 0}},
		{0, []int{1, 2, 3}, drawn{2, 1, 0}},
		{1, []int{1, 2, 3}, drawn{1, 2, 0}},
		{5, []int{1, 2, 3}, drawn{0, 6, 0}},
		{0, []int{5, 0, 5, 0, 5}, drawn{4, 1, 0}},
		{2, []int{5, 0, 5, 0, 5}, drawn{0, 3, 0}},
		{5, []int{5, 0, 5, 0, 5}, drawn{2, 6, 0}},
		{0, []int{1 << 40}, drawn{0, 1, 0}},
		{0, most, drawn{360, 1, 0}},
		{2, most, drawn{956, 3, 0}},
		{0, slices.Repeat([]int{1}, 1000), drawn{317, 1, 0}},
		{1<<40 - 1, []int{0, 1}, drawn{1, 1 << 40, 0}},
	} {
		if got := weigh(known, c.i, c.l); got != c.want {
			t.Errorf("Weigh(%d, %d elements from %d on) = %v, want %v", c.i, len(c.l), c.l[0], got, c.want)
		}
	}
}

// P1.4: each number below the sum belongs to the element that it falls into; elements that are 0 have none.
func TestWeighDraws(t *testing.T) {
	l := []int{0, 2, 0, 0, 1, 3, 0}
	owner := []int{1, 1, 4, 5, 5, 5}
	for w := range uint64(12) {
		for _, i := range []int{0, 9, 1<<40 - 1} {
			if got := weigh(having(w, i), i, l); got != (drawn{owner[w%6], i + 1, api.OK}) {
				t.Errorf("the word %d: %v, want %d, %d", w, got, owner[w%6], i+1)
			}
		}
	}
	s := having(last, 3)
	d := below(s, 3, 3)
	if got := weigh(s, 3, []int{1, 1, 1}); got != d || d.next < 5 {
		t.Error("Weigh does not pass over a word that is not accepted:", got, d)
	}
}

// P1.4: errors of Weigh, ErrArg ahead of ErrFull.
func TestWeighErrors(t *testing.T) {
	for _, c := range []struct {
		i    int
		l    []int
		want api.Errno
	}{
		{-1, []int{1}, api.ErrArg},
		{math.MinInt, []int{1}, api.ErrArg},
		{1<<40 + 1, []int{1}, api.ErrArg},
		{math.MaxInt, []int{1}, api.ErrArg},
		{0, nil, api.ErrArg},
		{0, []int{}, api.ErrArg},
		{0, []int{0}, api.ErrArg},
		{0, []int{0, 0, 0}, api.ErrArg},
		{0, []int{5, -1}, api.ErrArg},
		{0, []int{-1, 5}, api.ErrArg},
		{0, []int{math.MinInt, math.MaxInt, 2}, api.ErrArg},
		{0, []int{1<<40 + 1}, api.ErrArg},
		{0, []int{1, math.MaxInt}, api.ErrArg},
		{0, slices.Repeat([]int{1}, 1001), api.ErrArg},
		{1 << 40, []int{0, 0}, api.ErrArg},
		{1 << 40, nil, api.ErrArg},
		{1 << 40, []int{1, -1}, api.ErrArg},
		{1 << 40, []int{1}, api.ErrFull},
		{1 << 40, []int{0, 5, 0}, api.ErrFull},
	} {
		if got := weigh(known, c.i, c.l); got != (drawn{0, 0, c.want}) {
			t.Errorf("Weigh(%d, %d elements) = %v, want %d", c.i, len(c.l), got, c.want)
		}
	}
	s := having(last, 1<<40-1)
	if got := weigh(s, 1<<40-1, []int{1, 1, 1}); got != (drawn{0, 0, api.ErrFull}) {
		t.Error("the last word is not accepted:", got)
	}
}

// P1.5: what is drawn depends on the stream and the index alone.
func TestDrawsDependOnIndexAlone(t *testing.T) {
	weights := []int{3, 0, 4}
	draws := []func(s seed.Stream, i int) drawnList{
		func(s seed.Stream, i int) drawnList { return perm(s, i, 9) },
		func(s seed.Stream, i int) drawnList { return choose(s, i, 9, 4) },
		func(s seed.Stream, i int) drawnList {
			d := below(s, i, third)
			return drawnList{[]int{d.v}, d.next, d.e}
		},
		func(s seed.Stream, i int) drawnList {
			d := weigh(s, i, weights)
			return drawnList{[]int{d.v}, d.next, d.e}
		},
	}
	streams := []seed.Stream{{}, known, known.At(1)}
	var first []drawnList
	for i := range 50 {
		for _, s := range streams {
			for _, draw := range draws {
				first = append(first, draw(s, i))
			}
		}
	}
	for i := 49; i >= 0; i-- {
		for j := len(streams) - 1; j >= 0; j-- {
			for k := len(draws) - 1; k >= 0; k-- {
				want := first[(i*len(streams)+j)*len(draws)+k]
				if got := draws[k](streams[j], i); !got.equal(want) {
					t.Fatalf("draw %d from %d of %v: %v, but %v before", k, i, streams[j], got, want)
				}
			}
		}
	}
}

// R3: arguments are not changed, nor what lies behind them; results have memory of their own.
func TestMemory(t *testing.T) {
	all := []int{3, 0, 1, 2, 99, 98}
	if got := weigh(known, 0, all[:4]); got.e != api.OK || !slices.Equal(all, []int{3, 0, 1, 2, 99, 98}) {
		t.Error("Weigh changes its list:", got, all)
	}
	for name, draw := range map[string]func() []int{
		"Perm":   func() []int { return perm(known, 3, 10).l },
		"Choose": func() []int { return choose(known, 3, 10, 6).l },
	} {
		a := draw()
		want := slices.Clone(a)
		clear(a)
		if b := draw(); !slices.Equal(b, want) {
			t.Error(name, "gives out memory twice:", b, want)
		}
	}
}

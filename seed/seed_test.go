package seed_test

import (
	"go/parser"
	"go/token"
	"math"
	"path/filepath"
	"slices"
	"strings"
	"testing"

	"lyceum/api"
	"lyceum/seed"
)

// known is the stream of which the values below were worked out apart from this program.
var known = seed.Stream{Key: 1234567}

// P1.2: New.
func TestNew(t *testing.T) {
	for _, c := range []struct{ n, key uint64 }{{0, 0}, {1, 0x5692161d100b05e5}, {5, 0xb6bf613dbebb45dc}, {last, 0xb4d055fcf2cbbd7b}} {
		if got := seed.New(c.n).Key; got != c.key {
			t.Errorf("New(%d) has the key %#x, want %#x", c.n, got, c.key)
		}
	}
}

// P1.2: At.
func TestAt(t *testing.T) {
	for _, c := range []struct {
		s   seed.Stream
		n   int
		key uint64
	}{
		{known, 0, 0x181b19efff5d3e9a},
		{known, 1, 0x494c0fb4685612f0},
		{known, 7, 0xa361ba3ce4115416},
		{known, -1, 0x874a131135d206e5},
		{known, math.MinInt, 0xb1ce1e1e0d35b23b},
		{known, math.MaxInt, 0x919eaff3f8f77e60},
		{seed.Stream{Key: last}, 3, 0x1e535eede31428f0},
	} {
		if got := c.s.At(c.n).Key; got != c.key {
			t.Errorf("%v.At(%d) has the key %#x, want %#x", c.s, c.n, got, c.key)
		}
	}
}

// P1.2: Sub, with names of any bytes.
func TestSub(t *testing.T) {
	for _, c := range []struct {
		name string
		key  uint64
	}{
		{"a", 0x551b6d148c7d6039},
		{"ab", 0x56439324072575b4},
		{"ba", 0x0c18bc2e62ad55a0},
		{"\x00", 0xe1b30ba49d0199e4},
		{"\xff", 0xed3271a3e7ac7097},
		{"\u00e9", 0xa84fe85eb3f71dfb},
		{strings.Repeat("x", 32), 0xa0489c869dfc8bca},
	} {
		if got, e := known.Sub(c.name); got.Key != c.key || e != api.OK {
			t.Errorf("Sub(%q) = %#x, %d, want %#x", c.name, got.Key, e, c.key)
		}
	}
}

// P1.2: names that are empty or too long.
func TestSubErrors(t *testing.T) {
	for _, c := range []struct {
		name string
		want api.Errno
	}{{"", api.ErrArg}, {strings.Repeat("x", 33), api.ErrLong}, {strings.Repeat("\x00", 1000), api.ErrLong}, {strings.Repeat("\u00e9", 17), api.ErrLong}} {
		if got, e := known.Sub(c.name); got != (seed.Stream{}) || e != c.want {
			t.Errorf("Sub(%q) = %v, %d, want %d", c.name, got, e, c.want)
		}
	}
}

// P1.3: Word.
func TestWord(t *testing.T) {
	for _, c := range []struct {
		s    seed.Stream
		i    int
		want uint64
	}{
		{known, 0, 6457827717110365317},
		{known, 1, 3203168211198807973},
		{known, 2, 9817491932198370423},
		{known, 3, 4593380528125082431},
		{known, 4, 16408922859458223821},
		{known, 1<<40 - 1, 3345153939165193952},
		{seed.Stream{}, 0, 0xe220a8397b1dcdaf},
	} {
		if got, e := c.s.Word(c.i); got != c.want || e != api.OK {
			t.Errorf("%v.Word(%d) = %d, %d, want %d", c.s, c.i, got, e, c.want)
		}
	}
}

// P1.3: indices without a word.
func TestWordErrors(t *testing.T) {
	for _, i := range []int{-1, math.MinInt, 1 << 40, 1<<40 + 1, math.MaxInt} {
		if got, e := known.Word(i); got != 0 || e != api.ErrArg {
			t.Errorf("Word(%d) = %d, %d, want ErrArg", i, got, e)
		}
	}
}

// The constants of the chapter.
func TestLimits(t *testing.T) {
	if seed.MaxWord != 1<<40 || seed.MaxLabel != 32 || seed.MaxList != 1000 || seed.MaxWeight != 1<<40 {
		t.Error(seed.MaxWord, seed.MaxLabel, seed.MaxList, seed.MaxWeight)
	}
}

// The chapter lets the package import api alone.
func TestImports(t *testing.T) {
	files, err := filepath.Glob("*.go")
	if err != nil || len(files) == 0 {
		t.Fatal(files, err)
	}
	for _, file := range files {
		if strings.HasSuffix(file, "_test.go") {
			continue
		}
		f, err := parser.ParseFile(token.NewFileSet(), file, nil, parser.ImportsOnly)
		if err != nil {
			t.Fatal(err)
		}
		for _, i := range f.Imports {
			if i.Path.Value != `"lyceum/api"` {
				t.Error(file, "imports", i.Path.Value)
			}
		}
	}
}

// P1.5: the words of a stream are all different.
func TestWordsDiffer(t *testing.T) {
	for _, s := range []seed.Stream{{}, known, {Key: last}} {
		seen := map[uint64]bool{}
		for i := range 50000 {
			for _, at := range []int{i, seed.MaxWord/2 + i, seed.MaxWord - 1 - i} {
				w, e := s.Word(at)
				if e != api.OK || seen[w] {
					t.Fatalf("%v.Word(%d) = %d, %d: there was the same one", s, at, w, e)
				}
				seen[w] = true
			}
		}
	}
}

// differ reports streams of a list that are equal.
func differ(t *testing.T, what string, l []seed.Stream) {
	t.Helper()
	seen := map[seed.Stream]int{}
	for i, s := range l {
		if j, ok := seen[s]; ok {
			t.Errorf("%s: %d and %d have the same stream", what, j, i)
		}
		seen[s] = i
	}
}

// P1.5: streams with different keys have different streams of the same name, and of the same number.
func TestKeysDiffer(t *testing.T) {
	keys := someWords()
	slices.Sort(keys)
	keys = slices.Compact(keys)
	for i := range 5000 {
		keys = append(keys, 3<<50+uint64(i)<<20)
	}
	var atZero, atMinus, short, long []seed.Stream
	for _, k := range keys {
		s := seed.Stream{Key: k}
		atZero, atMinus = append(atZero, s.At(0)), append(atMinus, s.At(-3))
		a, e := s.Sub("a")
		b, f := s.Sub("a name of a stream")
		if e != api.OK || f != api.OK {
			t.Fatal(e, f)
		}
		short, long = append(short, a), append(long, b)
	}
	differ(t, "At(0)", atZero)
	differ(t, "At(-3)", atMinus)
	differ(t, "a short name", short)
	differ(t, "a long name", long)
}

// P1.5: different numbers of one stream have different streams.
func TestNumbersDiffer(t *testing.T) {
	var l []seed.Stream
	for n := -5000; n < 5000; n++ {
		l = append(l, known.At(n))
	}
	differ(t, "numbers", append(l, known.At(math.MinInt), known.At(math.MaxInt)))
}

// P1.5: names of one stream that differ in one byte alone have different streams.
func TestNamesDiffer(t *testing.T) {
	for _, name := range []string{"x", "xy", "\x00\x00\x00", strings.Repeat("long", 8)} {
		for i := range len(name) {
			var l []seed.Stream
			for b := range 256 {
				s, e := known.Sub(name[:i] + string([]byte{byte(b)}) + name[i+1:])
				if e != api.OK {
					t.Fatal(name, i, b, e)
				}
				l = append(l, s)
			}
			differ(t, name, l)
		}
	}
}

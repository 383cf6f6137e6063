// Package seed makes streams of words that look random, and are the same wherever and whenever they are asked for. It is layer 1: see shared/doc/01-seed.md.
package seed

import "lyceum/api"

// Stream is a stream of words; all of them come of its Key.
type Stream struct{ Key uint64 }

// Limits.
const (
	MaxWord   = 1 << 40 // words of a stream
	MaxLabel  = 32      // bytes of a name
	MaxList   = 1000    // elements of a list
	MaxWeight = 1 << 40 // of an element
)

// stride is what lies between two words before they are mixed; it is odd, so that its multiples differ.
const stride = 0x9e3779b97f4a7c15

// New returns the stream of a number.
func New(n uint64) Stream { return Stream{Key: Mix(n)} }

// At returns the stream of a number in a stream.
func (s Stream) At(n int) Stream { return Stream{Key: Mix(Mix(s.Key+1) ^ uint64(n))} }

// Sub returns the stream of a name in a stream.
func (s Stream) Sub(name string) (Stream, api.Errno) {
	if name == "" {
		return Stream{}, api.ErrArg
	}
	if len(name) > MaxLabel {
		return Stream{}, api.ErrLong
	}
	// The length comes first, so that a name's key is not on the way to that of a longer name.
	k := Mix(s.Key ^ uint64(len(name)))
	for i := range len(name) {
		k = Mix(k ^ uint64(name[i]))
	}
	return Stream{Key: k}, api.OK
}

// Word returns the word with an index.
func (s Stream) Word(i int) (uint64, api.Errno) {
	if i < 0 || i >= MaxWord {
		return 0, api.ErrArg
	}
	return Mix(s.Key + uint64(i+1)*stride), api.OK
}

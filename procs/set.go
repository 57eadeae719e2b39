package procs

import (
	"iter"
	"math/bits"
	"slices"

	"playpen/api"
)

// wordBits is how many numbers of a set one of its words stands for.
const wordBits = 64

// Set is a set of numbers from 0 on, one bit each.
type Set[K ~uint32 | ~int] struct {
	self  *Set[K] // the set itself, once NewSet has made it: a copy by hand is told from it
	bound int
	words []uint64 // the bits, the lowest numbers first; those from bound on are never set
	count int
}

// NewSet makes a set for the numbers below a bound.
func NewSet[K ~uint32 | ~int](bound int) (*Set[K], api.Errno) {
	if bound < 0 || bound > api.MaxSet {
		return nil, api.ErrArg
	}
	s := &Set[K]{bound: bound, words: make([]uint64, (bound+wordBits-1)/wordBits)}
	s.self = s
	return s, api.OK
}

// Add puts a number in; whether it is new.
func (s *Set[K]) Add(x K) bool {
	if !s.isFor(x) || s.Has(x) {
		return false
	}
	s.turn(x)
	s.count++
	return true
}

// Drop takes a number out; whether it was there.
func (s *Set[K]) Drop(x K) bool {
	if !s.Has(x) {
		return false
	}
	s.turn(x)
	s.count--
	return true
}

// Has tells whether a number is there.
func (s *Set[K]) Has(x K) bool {
	return s.isFor(x) && s.words[int(x)/wordBits]>>(int(x)%wordBits)&1 == 1
}

// Len tells how many there are.
func (s *Set[K]) Len() int {
	if !s.isMade() {
		return 0
	}
	return s.count
}

// All goes through them, rising.
func (s *Set[K]) All() iter.Seq[K] {
	// The set may be changed ahead of the walk, or during it.
	words := slices.Clone(s.held())
	return within[K](words, 0, len(words)*wordBits)
}

// Same tells whether two sets have the same numbers.
func Same[K ~uint32 | ~int](a *Set[K], b *Set[K]) bool {
	x, y := a.held(), b.held()
	both := min(len(x), len(y))
	return slices.Equal(x[:both], y[:both]) && isNought(x[both:]) && isNought(y[both:])
}

// isMade tells whether NewSet made the set.
func (s *Set[K]) isMade() bool {
	return s != nil && s.self == s
}

// isFor tells whether a number may be in the set. Where an int has 32 bits, words from 2^31 on become numbers below 0: no set is for them either.
func (s *Set[K]) isFor(x K) bool {
	return s.isMade() && int(x) >= 0 && int(x) < s.bound
}

// turn changes the bit of a number that the set is for.
func (s *Set[K]) turn(x K) {
	s.words[int(x)/wordBits] ^= 1 << (int(x) % wordBits)
}

// held gives the words of the set; none, if NewSet did not make it.
func (s *Set[K]) held() []uint64 {
	if !s.isMade() {
		return nil
	}
	return s.words
}

// within goes through the numbers whose bits are set in words, from first on and below end, rising.
func within[K ~uint32 | ~int](words []uint64, first int, end int) iter.Seq[K] {
	return func(yield func(K) bool) {
		for x := next(words, first); x < end; x = next(words, x+1) {
			if !yield(K(x)) {
				return
			}
		}
	}
}

// next tells the first number from x on whose bit is set; the one behind all words, if there is none.
func next(words []uint64, x int) int {
	passed := x % wordBits
	for i := x / wordBits; i < len(words); i++ {
		if left := words[i] >> passed << passed; left != 0 {
			return i*wordBits + bits.TrailingZeros64(left)
		}
		passed = 0
	}
	return len(words) * wordBits
}

// isNought tells whether no bit of words is set.
func isNought(words []uint64) bool {
	return !slices.ContainsFunc(words, func(word uint64) bool { return word != 0 })
}

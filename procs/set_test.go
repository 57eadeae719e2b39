package procs_test

import (
	"iter"
	"math"
	"slices"
	"testing"

	"playpen/api"
	"playpen/procs"
)

// Kinds of numbers with names of their own.
type (
	index  uint32
	number int
)

// newSet makes a set whose bound may be.
func newSet[K ~uint32 | ~int](t *testing.T, bound int, numbers ...K) *procs.Set[K] {
	t.Helper()
	s, err := procs.NewSet[K](bound)
	if s == nil || err != api.OK {
		t.Fatalf("NewSet(%d): %d", bound, err)
	}
	for _, x := range numbers {
		s.Add(x)
	}
	return s
}

// pair is a set, and the list of its numbers as they were added and not dropped since.
type pair[K ~uint32 | ~int] struct {
	set   *procs.Set[K]
	bound int
	list  []K
}

func pairOf[K ~uint32 | ~int](t *testing.T, bound int) *pair[K] {
	t.Helper()
	return &pair[K]{set: newSet[K](t, bound), bound: bound}
}

// isFor tells whether a number may be in the list.
func (p *pair[K]) isFor(x K) bool {
	return x >= 0 && uint64(x) < uint64(p.bound)
}

func (p *pair[K]) add(t *testing.T, x K) {
	t.Helper()
	want := p.isFor(x) && !slices.Contains(p.list, x)
	if want {
		p.list = append(p.list, x)
	}
	if got := p.set.Add(x); got != want {
		t.Fatalf("a set for %d: Add(%d): %t", p.bound, x, got)
	}
}

func (p *pair[K]) drop(t *testing.T, x K) {
	t.Helper()
	i := slices.Index(p.list, x)
	if i >= 0 {
		p.list = slices.Delete(p.list, i, i+1)
	}
	if got := p.set.Drop(x); got != (i >= 0) {
		t.Fatalf("a set for %d: Drop(%d): %t", p.bound, x, got)
	}
}

func (p *pair[K]) has(t *testing.T, x K) {
	t.Helper()
	if got := p.set.Has(x); got != slices.Contains(p.list, x) {
		t.Fatalf("a set for %d: Has(%d): %t", p.bound, x, got)
	}
}

func (p *pair[K]) check(t *testing.T) {
	t.Helper()
	if p.set.Len() != len(p.list) {
		t.Fatalf("a set for %d: Len %d, want %d", p.bound, p.set.Len(), len(p.list))
	}
	if got := collected(t, p.set.All()); !slices.Equal(got, slices.Sorted(slices.Values(p.list))) {
		t.Fatalf("a set for %d: All %v, want %v", p.bound, got, p.list)
	}
}

// same holds Same of two sets against their lists.
func same[K ~uint32 | ~int](t *testing.T, x, y *pair[K]) {
	t.Helper()
	want := slices.Equal(slices.Sorted(slices.Values(x.list)), slices.Sorted(slices.Values(y.list)))
	if procs.Same(x.set, y.set) != want || procs.Same(y.set, x.set) != want {
		t.Fatalf("Same of %v and %v", x.list, y.list)
	}
}

// The chapter's example 5.
func TestExampleSet(t *testing.T) {
	s := newSet[int](t, 10)
	if !s.Add(3) || s.Add(3) || s.Add(10) || s.Add(-1) || !s.Add(0) || s.Len() != 2 || !s.Drop(3) || s.Has(3) {
		t.Error("the set does otherwise")
	}
	if all := collected(t, s.All()); !slices.Equal(all, []int{0}) {
		t.Errorf("All: %v", all)
	}
}

// P13.5: which bounds a set may have.
func TestBoundsOfSets(t *testing.T) {
	for _, bound := range []int{-1, math.MinInt, -1 << 32, -64, api.MaxSet + 1, api.MaxSet + 64, 1 << 32, math.MaxInt} {
		if s, err := procs.NewSet[int](bound); s != nil || err != api.ErrArg {
			t.Errorf("NewSet[int](%d): %d", bound, err)
		}
		if s, err := procs.NewSet[index](bound); s != nil || err != api.ErrArg {
			t.Errorf("NewSet[index](%d): %d", bound, err)
		}
	}
	tryBounds[int](t)
	tryBounds[uint32](t)
	tryBounds[index](t)
	tryBounds[number](t)
}

func tryBounds[K ~uint32 | ~int](t *testing.T) {
	for _, bound := range []int{0, 1, 2, 31, 32, 33, 63, 64, 65, 127, 128, 129, 1000, 1 << 16, api.MaxSet - 1, api.MaxSet} {
		p := pairOf[K](t, bound)
		p.check(t)
		var near []K
		for _, edge := range []int{0, 1, 31, 32, 33, 63, 64, 65, 127, 128, 129, bound / 2, bound - 2, bound - 1, bound, bound + 1, bound + 64, api.MaxSet, api.MaxSet + 1, 1 << 31} {
			near = append(near, K(edge))
		}
		for _, step := range []func(*testing.T, K){p.has, p.drop, p.add, p.has, p.add, p.has, p.drop, p.has, p.drop, p.add} {
			for _, x := range near {
				step(t, x)
			}
			p.check(t)
		}
	}
}

// P13.5: numbers below 0 and far beyond are in no set, even where their last bits are those of one that is.
func TestNumbersBeyond(t *testing.T) {
	for _, bound := range []int{0, 1, 64, 65, api.MaxSet} {
		s := newSet[int](t, bound)
		for _, x := range []int{-1, -63, -64, -65, math.MinInt, math.MinInt + 1, math.MaxInt, 1 << 32, 1<<32 + 1, -1 << 32, bound, bound + 64} {
			if s.Add(x) || s.Has(x) || s.Drop(x) || s.Len() != 0 {
				t.Errorf("a set for %d: %d", bound, x)
			}
		}
		w := newSet[index](t, bound)
		for _, x := range []index{math.MaxUint32, 1 << 31, 1<<31 - 1, 1<<31 + 1, index(bound), index(bound) + 1} {
			if w.Add(x) || w.Has(x) || w.Drop(x) || w.Len() != 0 {
				t.Errorf("a set for %d: %d", bound, x)
			}
		}
	}
}

// P13.5: a set that has all of its numbers.
func TestFullSets(t *testing.T) {
	for _, bound := range []int{1, 64, 65, 128, 1000} {
		p := pairOf[number](t, bound)
		for i := range bound {
			p.add(t, number(bound-1-i))
		}
		p.check(t)
		for i := range bound {
			p.drop(t, number(i))
			p.has(t, number(i))
		}
		p.check(t)
	}
	full := newSet[uint32](t, api.MaxSet)
	for i := range uint32(api.MaxSet) {
		full.Add(i)
	}
	count := uint32(0)
	for x := range full.All() {
		if x != count {
			t.Fatalf("%d behind %d", x, count)
		}
		count++
	}
	if count != api.MaxSet || full.Len() != api.MaxSet {
		t.Errorf("%d, %d", count, full.Len())
	}
}

// P13.5: All goes through what was in the set when it was called, whatever is done meanwhile.
func TestAllWhileChanged(t *testing.T) {
	s := newSet[int](t, 200, 3, 63, 64, 199)
	all := s.All()
	for x := range all {
		s.Drop(199)
		s.Drop(x)
		s.Add(x + 1)
		s.Add(100)
	}
	if got := collected(t, s.All()); !slices.Equal(got, []int{4, 65, 100}) {
		t.Errorf("behind it: %v", got)
	}
	if got := collected(t, all); !slices.Equal(got, []int{3, 63, 64, 199}) {
		t.Errorf("gone through again: %v", got)
	}
	none := newSet[int](t, 5)
	empty := none.All()
	none.Add(2)
	if got := collected(t, empty); len(got) != 0 {
		t.Errorf("ahead of the first number: %v", got)
	}
	if got := collected(t, none.All()); !slices.Equal(got, []int{2}) {
		t.Errorf("behind it: %v", got)
	}
}

// P13.5: All may be left early and be gone through again, also one within the other.
func TestAllLeftEarly(t *testing.T) {
	numbers := []uint32{0, 1, 62, 63, 64, 128, 190}
	s := newSet(t, 191, numbers...)
	all := s.All()
	for stop := range numbers {
		var got []uint32
		for x := range all {
			got = append(got, x)
			if len(got) == stop+1 {
				break
			}
		}
		if !slices.Equal(got, numbers[:stop+1]) {
			t.Errorf("left behind %d: %v", stop, got)
		}
	}
	pairs := 0
	for x := range all {
		for y := range all {
			if y > x {
				break
			}
			pairs++
		}
	}
	if pairs != len(numbers)*(len(numbers)+1)/2 {
		t.Errorf("one within the other: %d", pairs)
	}
	next, stop := iter.Pull(s.All())
	if x, is := next(); x != 0 || !is {
		t.Errorf("pulled: %d, %t", x, is)
	}
	stop()
	if !slices.Equal(collected(t, all), numbers) {
		t.Error("gone through again")
	}
}

// P13.5: Same asks for the numbers alone, whatever the bounds.
func TestSame(t *testing.T) {
	for _, c := range []struct {
		numbers []int
		same    bool
		other   []int
	}{
		{nil, true, nil},
		{[]int{0}, false, nil},
		{[]int{0}, true, []int{0}},
		{[]int{0}, false, []int{1}},
		{[]int{0, 1}, false, []int{0}},
		{[]int{5, 63}, true, []int{63, 5}},
		{[]int{5, 63}, false, []int{5, 62}},
	} {
		for _, bound := range []int{64, 65, 128, 129, 1000, api.MaxSet} {
			for _, otherBound := range []int{64, 65, 127, 200, 1 << 16} {
				x, y := newSet(t, bound, c.numbers...), newSet(t, otherBound, c.other...)
				if procs.Same(x, y) != c.same || procs.Same(y, x) != c.same || !procs.Same(x, x) {
					t.Errorf("%v (%d) and %v (%d)", c.numbers, bound, c.other, otherBound)
				}
			}
		}
	}
	low, high := newSet(t, 65, 3), newSet(t, 66, 3, 64)
	if procs.Same(low, high) || procs.Same(high, low) {
		t.Error("a number in the last word alone")
	}
	low.Add(64)
	if !procs.Same(low, high) {
		t.Error("the number is in both")
	}
	far := newSet(t, api.MaxSet, 3, 64, api.MaxSet-1)
	if procs.Same(far, high) || procs.Same(high, far) {
		t.Error("a number far beyond the other's bound")
	}
	far.Drop(api.MaxSet - 1)
	if !procs.Same(far, high) || !procs.Same(high, far) {
		t.Error("the number far beyond was dropped")
	}
}

// checkNoSet wants a set that was not made to do nothing and to tell nothing.
func checkNoSet[K ~uint32 | ~int](t *testing.T, what string, s *procs.Set[K]) {
	t.Helper()
	for _, x := range []K{0, 1, 63, 64, 1 << 20} {
		if s.Has(x) || s.Add(x) || s.Has(x) || s.Drop(x) || s.Len() != 0 {
			t.Errorf("%s: %d", what, x)
		}
	}
	if all := collected(t, s.All()); len(all) != 0 {
		t.Errorf("%s: All %v", what, all)
	}
	none, some := newSet[K](t, 100), newSet[K](t, 100, 99)
	for _, other := range []*procs.Set[K]{nil, {}, s, none} {
		if !procs.Same(s, other) || !procs.Same(other, s) {
			t.Errorf("%s: not the same as a set with nothing in it", what)
		}
	}
	if procs.Same(s, some) || procs.Same(some, s) {
		t.Errorf("%s: the same as a set with something in it", what)
	}
}

// P13.6: sets that are nil or that NewSet did not make, a copy by hand too.
func TestSetsNotMade(t *testing.T) {
	checkNoSet[int](t, "nil", nil)
	checkNoSet[uint32](t, "nil", nil)
	checkNoSet(t, "a zero one", &procs.Set[index]{})
	checkNoSet(t, "a new one", new(procs.Set[number]))
	made := newSet(t, 100, 0, 64)
	byHand := *made
	checkNoSet(t, "a copy by hand", &byHand)
	if all := collected(t, made.All()); !slices.Equal(all, []int{0, 64}) || made.Len() != 2 {
		t.Errorf("the set that was copied became %v", all)
	}
}

// walk makes one call after another on three sets, as words ask for them, and holds them against lists.
func walk[K ~uint32 | ~int](t *testing.T, words []uint32, bounds [3]int) {
	t.Helper()
	var sets [3]*pair[K]
	for i, bound := range bounds {
		sets[i] = pairOf[K](t, bound)
	}
	for i, word := range words {
		p := sets[word%3]
		x := K(int(word>>4) % (bounds[i%3] + 3))
		if word>>2%16 == 15 {
			x = K(0) - x
		}
		switch word >> 28 {
		case 0, 1, 2, 3, 4, 5:
			p.add(t, x)
		case 6, 7, 8, 9:
			p.drop(t, x)
		case 10, 11:
			p.has(t, x)
		case 12:
			p.check(t)
		case 13:
			same(t, p, sets[i%3])
		case 14:
			other := pairOf[K](t, bounds[i%3])
			for y := range p.set.All() {
				other.add(t, y)
			}
			same(t, p, other)
		case 15:
			for y := range p.set.All() {
				if y%2 == 0 {
					p.drop(t, y)
				}
			}
		}
	}
	for _, p := range sets {
		p.check(t)
	}
}

// P13.9: over many scattered calls.
func TestScatteredSets(t *testing.T) {
	words := scattered(40000)
	for i, bounds := range [][3]int{{0, 1, 2}, {64, 65, 63}, {10, 100, 30}, {5, 128, 192}, {1000, 64, 129}, {30, api.MaxSet, 4000}, {8, 8, 8}, {3, 200, 66}} {
		part := words[i*5000 : i*5000+5000]
		walk[int](t, part, bounds)
		walk[uint32](t, part, bounds)
		walk[index](t, part[:1000], bounds)
		walk[number](t, part[:1000], bounds)
	}
}

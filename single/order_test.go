package single_test

import (
	"testing"

	"playpen/api"
	"playpen/single"
)

// P3.5: the edges that the promise names.
func TestNeighbourRows(t *testing.T) {
	cases := []struct{ a, above, below uint32 }{
		{0, 1, minus + 1},
		{minus, 1, minus + 1},
		{1, 2, 0},
		{minus + 1, minus, minus + 2},
		{0x007FFFFF, 0x00800000, 0x007FFFFE},
		{0x00800000, 0x00800001, 0x007FFFFF},
		{one, one + 1, one - 1},
		{two, two + 1, 0x3FFFFFFF},
		{minus + two, 0xBFFFFFFF, minus + two + 1},
		{most, endless, most - 1},
		{endless, endless, most},
		{minus + most, minus + most - 1, minus + endless},
		{minus + endless, minus + most, minus + endless},
		{api.NaN, api.NaN, api.NaN},
		{0xFFC00001, api.NaN, api.NaN},
		{0x7F800001, api.NaN, api.NaN},
		{0xFF800001, api.NaN, api.NaN},
		{0xFFFFFFFF, api.NaN, api.NaN},
	}
	for _, c := range cases {
		if got := single.Above(c.a); got != c.above {
			t.Errorf("Above(%08X): %08X, want %08X", c.a, got, c.above)
		}
		if got := single.Below(c.a); got != c.below {
			t.Errorf("Below(%08X): %08X, want %08X", c.a, got, c.below)
		}
	}
}

// P3.5, P3.15: a number's neighbours are one place off, and lead back.
func TestNeighbours(t *testing.T) {
	for _, a := range manyWords() {
		above, below := single.Above(a), single.Below(a)
		if isNone(a) {
			if above != api.NaN || below != api.NaN {
				t.Fatalf("%08X lies between %08X and %08X", a, below, above)
			}
			continue
		}
		if a != endless && (place(above) != place(a)+1 || single.Stand(above, a) != api.SideAbove || place(single.Below(above)) != place(a)) {
			t.Fatalf("Above(%08X): %08X, below it %08X", a, above, single.Below(above))
		}
		if a != minus+endless && (place(below) != place(a)-1 || single.Stand(below, a) != api.SideBelow || place(single.Above(below)) != place(a)) {
			t.Fatalf("Below(%08X): %08X, above it %08X", a, below, single.Above(below))
		}
	}
}

// P3.15: every number is at most a, or at least Above(a).
func TestNothingBetween(t *testing.T) {
	words := rising(someWords())
	for _, a := range words {
		above := single.Above(a)
		for _, b := range words {
			low, high := single.Stand(b, a), single.Stand(b, above)
			if low == api.SideAbove && high == api.SideBelow {
				t.Fatalf("%08X lies between %08X and %08X", b, a, above)
			}
		}
	}
}

// P3.6: the edges that the promise names.
func TestStandRows(t *testing.T) {
	cases := []struct {
		a, b uint32
		want api.Side
	}{
		{0, minus, api.SideEven},
		{minus, 0, api.SideEven},
		{one, two, api.SideBelow},
		{minus + one, minus + two, api.SideAbove},
		{1, minus + 1, api.SideAbove},
		{1, 0, api.SideAbove},
		{minus, 1, api.SideBelow},
		{minus + 1, 0, api.SideBelow},
		{endless, endless, api.SideEven},
		{minus + endless, minus + endless, api.SideEven},
		{endless, most, api.SideAbove},
		{minus + endless, minus + most, api.SideBelow},
		{minus + endless, endless, api.SideBelow},
		{api.NaN, api.NaN, api.SideNone},
		{api.NaN, one, api.SideNone},
		{0, 0x7FFFFFFF, api.SideNone},
		{0xFFFFFFFF, endless, api.SideNone},
		{minus + endless, 0xFF800001, api.SideNone},
	}
	for _, c := range cases {
		if got := single.Stand(c.a, c.b); got != c.want {
			t.Errorf("Stand(%08X, %08X): %d, want %d", c.a, c.b, got, c.want)
		}
	}
}

// standBy tells how two stand by their places among all numbers.
func standBy(a, b uint32) api.Side {
	switch {
	case isNone(a) || isNone(b):
		return api.SideNone
	case order(a, b) < 0:
		return api.SideBelow
	case order(a, b) > 0:
		return api.SideAbove
	}
	return api.SideEven
}

// P3.6: each of many words against each, by their places and, of the finite ones, by their exact values.
func TestStand(t *testing.T) {
	words := someWords()
	for _, a := range words {
		for _, b := range words {
			got := single.Stand(a, b)
			if want := standBy(a, b); got != want {
				t.Fatalf("Stand(%08X, %08X): %d, want %d", a, b, got, want)
			}
			if isFinite(a) && isFinite(b) && int(got)-int(api.SideEven) != valueOf(a).Cmp(valueOf(b)) {
				t.Fatalf("Stand(%08X, %08X): %d", a, b, got)
			}
		}
	}
}

package gate_test

import (
	"math"
	"slices"
	"testing"

	"playpen/api"
)

// The errors have the numbers of the chapter.
func TestErrors(t *testing.T) {
	if api.ErrGrant != 160 || api.ErrNumber != 161 || api.ErrShape != 162 || api.ErrNil != 1 || api.ErrReply != 5 {
		t.Error("an error has another number")
	}
}

// P16.1: as many grants as may be, and one more.
func TestNewCounts(t *testing.T) {
	checkGate(t, mustNew(t), nil)
	checkGate(t, mustNew(t, []api.Grant{}...), nil)
	for count := range 65 {
		checkGate(t, mustNew(t, row(count)...), row(count))
	}
	for _, count := range []int{65, 66, 128, 1000} {
		refused(t, row(count)...)
	}
	// Too many, though they are of few numbers.
	refused(t, slices.Repeat([]api.Grant{{Number: 3, Args: 1}}, 65)...)
}

// P16.1: a number up to 2^31 - 1, Args from 0 to 15; one wrong grant, wherever it stands, is enough.
func TestNewMayBe(t *testing.T) {
	for _, number := range []uint32{0, 1, 2, 255, 65536, 1<<31 - 2, 1<<31 - 1} {
		for args := range 16 {
			checkGate(t, mustNew(t, grant(number, args)), []api.Grant{grant(number, args)})
		}
		for _, args := range []int{math.MinInt, math.MinInt32, -16, -1, 16, 17, 256, math.MaxInt32, 1 << 32, 1<<32 + 1, math.MaxInt} {
			refused(t, grant(number, args))
		}
	}
	for _, number := range []uint32{1 << 31, 1<<31 + 1, 0xFFFFFFF8, 1<<32 - 1} {
		refused(t, grant(number, 0))
		refused(t, grant(number, 15))
	}
	for place := range 64 {
		for _, wrong := range []api.Grant{grant(1<<31, 1), grant(100, 16), grant(100, -1)} {
			list := row(64)
			list[place] = wrong
			refused(t, list...)
		}
	}
}

// P16.1: two of one number are refused, with the same Args or others, wherever they stand.
func TestNewTwice(t *testing.T) {
	for first := range 64 {
		for second := range first {
			list := row(64)
			list[first].Number = list[second].Number
			refused(t, list...)
			list[first].Args = list[second].Args
			refused(t, list...)
		}
	}
	refused(t, grant(1<<31-1, 3), grant(0, 0), grant(1<<31-1, 4))
	refused(t, grant(0, 0), grant(0, 0))
}

// P16.1, P16.3: the same grants in several orders make gates that tell the same.
func TestNewOrders(t *testing.T) {
	list := append(row(40), grant(1<<31-1, 15), grant(1<<31-2, 0), grant(1<<30, 7))
	first := mustNew(t, list...)
	d := newDice(1)
	for range 200 {
		other := slices.Clone(list)
		for i := range other {
			j := d.upTo(i)
			other[i], other[j] = other[j], other[i]
		}
		g := mustNew(t, other...)
		checkGate(t, g, list)
		if !g.Within(first) || !first.Within(g) {
			t.Fatal("another order makes another gate")
		}
	}
	slices.Reverse(list)
	checkGate(t, mustNew(t, list...), list)
}

// P16.3: the order does not hang on how a map is gone through: it is the same at each call.
func TestGrantsRise(t *testing.T) {
	g := mustNew(t, row(64)...)
	for range 100 {
		if got := g.Grants(); !slices.Equal(got, row(64)) {
			t.Fatalf("Grants: %v", got)
		}
	}
	high := []api.Grant{grant(1<<31-1, 1), grant(1<<30, 2), grant(0, 3), grant(1<<31-2, 4), grant(1, 5)}
	checkGate(t, mustNew(t, high...), high)
}

// P16.7: of a gate and itself, of others with the same grants, with more, with fewer, with other Args.
func TestWithin(t *testing.T) {
	none, some, more := mustNew(t), mustNew(t, grant(0, 0), grant(7, 2)), mustNew(t, grant(9, 1), grant(7, 2), grant(0, 0))
	again := mustNew(t, grant(7, 2), grant(0, 0))
	for _, other := range []api.Grant{grant(7, 1), grant(7, 3), grant(7, 0)} {
		g := mustNew(t, grant(0, 0), other, grant(9, 1))
		if some.Within(g) || g.Within(some) || g.Within(more) || more.Within(g) {
			t.Errorf("with %v", other)
		}
	}
	// A grant of no words is not the same as none.
	if mustNew(t, grant(0, 0)).Within(mustNew(t, grant(7, 2))) || mustNew(t, grant(3, 0)).Within(none) {
		t.Error("a number that is not granted counts as one without words")
	}
	for i, x := range []struct {
		within, want bool
	}{
		{none.Within(none), true}, {some.Within(some), true}, {more.Within(more), true}, {some.Within(again), true}, {again.Within(some), true},
		{none.Within(some), true}, {none.Within(more), true}, {some.Within(more), true},
		{some.Within(none), false}, {more.Within(none), false}, {more.Within(some), false},
		{mustNew(t, row(64)...).Within(mustNew(t, row(63)...)), false}, {mustNew(t, row(63)...).Within(mustNew(t, row(64)...)), true},
	} {
		if x.within != x.want {
			t.Errorf("%d: %t", i, x.within)
		}
	}
}

// P16.7: each single grant counts.
func TestWithinEach(t *testing.T) {
	whole := mustNew(t, row(64)...)
	for i := range 64 {
		turned := row(64)
		turned[i].Args = (turned[i].Args + 1) % 16
		other := mustNew(t, turned...)
		if whole.Within(other) || other.Within(whole) {
			t.Errorf("with other Args of %d", i)
		}
		turned = row(64)
		turned[i].Number = 1000
		other = mustNew(t, turned...)
		if whole.Within(other) || other.Within(whole) {
			t.Errorf("without %d", i)
		}
	}
}

// P16.7: no numbers, all, such as are not granted, one twice; the gate itself stays as it was.
func TestLess(t *testing.T) {
	list := []api.Grant{grant(0, 0), grant(3, 1), grant(7, 2), grant(1<<31-1, 15)}
	g := mustNew(t, list...)
	for i, x := range []struct {
		numbers []uint32
		left    []api.Grant
	}{
		{nil, list}, {[]uint32{}, list}, {[]uint32{1, 2, 4, 1 << 31, 1<<32 - 1}, list},
		{[]uint32{0}, list[1:]}, {[]uint32{1<<31 - 1}, list[:3]}, {[]uint32{7, 3}, []api.Grant{list[0], list[3]}},
		{[]uint32{7, 7}, []api.Grant{list[0], list[1], list[3]}}, {[]uint32{3, 9, 3, 9, 3}, []api.Grant{list[0], list[2], list[3]}},
		{[]uint32{0, 3, 7, 1<<31 - 1}, nil}, {[]uint32{1<<31 - 1, 5, 7, 3, 0, 0}, nil},
	} {
		left := mustLess(t, g, x.numbers...)
		if left == g {
			t.Errorf("%d: the gate itself", i)
		}
		checkGate(t, left, x.left)
		checkGate(t, g, list)
		if !left.Within(g) || g.Within(left) != (len(x.left) == len(list)) {
			t.Errorf("%d: Within: %t, %t", i, left.Within(g), g.Within(left))
		}
		checkGate(t, mustLess(t, left, x.numbers...), x.left)
	}
	checkGate(t, mustLess(t, g), list)
	checkGate(t, mustLess(t, mustNew(t), 1, 2), nil)
}

// P16.7: far more numbers than there are grants.
func TestLessMany(t *testing.T) {
	var numbers []uint32
	for i := range uint32(5000) {
		numbers = append(numbers, 5000-i, i+1)
	}
	g := mustNew(t, row(64)...)
	checkGate(t, mustLess(t, g, numbers...), row(1))
	checkGate(t, mustLess(t, g, append(numbers, 0)...), nil)
	checkGate(t, g, row(64))
}

// P16.8: a gate that is nil or that was not made tells nothing, refuses with ErrNil, and changes nothing.
func TestNil(t *testing.T) {
	made, m := sample(t)
	before := m.Bytes()
	for what, g := range unmade(t) {
		if got := g.Grants(); len(got) != 0 {
			t.Errorf("%s: Grants: %v", what, got)
		}
		for _, number := range []uint32{0, 1, 7, 1<<31 - 1, 1<<32 - 1} {
			if args, is := g.Granted(number); args != 0 || is {
				t.Errorf("%s: Granted(%d): %d, %t", what, number, args, is)
			}
			if words, is := g.Words(m, 12, number); len(words) != 0 || is {
				t.Errorf("%s: Words(%d): %v, %t", what, number, words, is)
			}
			if words, is := g.Words(nil, 12, number); len(words) != 0 || is {
				t.Errorf("%s: Words(%d) of no memory: %v, %t", what, number, words, is)
			}
		}
		if g.Within(made) || made.Within(g) || g.Within(g) || g.Within(nil) || g.Within(mustNew(t)) || mustNew(t).Within(g) {
			t.Errorf("%s: it is Within something", what)
		}
		for other, o := range unmade(t) {
			if g.Within(o) {
				t.Errorf("%s is Within %s", what, other)
			}
		}
		for _, numbers := range [][]uint32{nil, {7}, {0, 7, 9}} {
			if left, err := g.Less(numbers...); left != nil || err != api.ErrNil {
				t.Errorf("%s: Less(%v): %v, %d", what, numbers, left, err)
			}
		}
		for _, r := range []api.Reply{{}, reply(9, write(16, 1, 2, 3)), tooMany(), tooLong()} {
			if err := g.Apply(m, r); err != api.ErrNil {
				t.Errorf("%s: Apply: %d", what, err)
			}
			if x, err := g.Event(3, 7, []uint32{1, 2}, r); err != api.ErrNil || !sameEvent(x, api.Event{}) {
				t.Errorf("%s: Event: %v, %d", what, x, err)
			}
		}
	}
	if !slices.Equal(m.Bytes(), before) {
		t.Error("something was stored")
	}
}

// P16.8: what a copy by hand is asked for is not seen in the gate from which it was taken.
func TestCopyByHand(t *testing.T) {
	g, _ := sample(t)
	byHand := *g
	byHand.Less(7)
	byHand.Grants()
	checkGate(t, g, []api.Grant{grant(0, 0), grant(7, 2)})
}

package host_test

import (
	"testing"

	"playpen/api"
	"playpen/host"
)

// pointsData gives a segment with points from 32 on.
func pointsData(parts ...uint32) []byte { return words(256, 32, parts...) }

// P17.4, add, mul and div: points that come out even, and such as are rounded.
func TestPointsWork(t *testing.T) {
	h := host.New(7)
	for _, x := range []struct {
		number         uint32
		ar, ai, br, bi float32
		re, im         float32
	}{
		{api.CallAdd, 3, 4, 0, 2, 3, 6}, {api.CallAdd, 1, -1, -1, 1, 0, 0}, {api.CallAdd, 16777216, 1, 1, 0.5, 16777216, 1.5},
		{api.CallMul, 1, 2, 3, -1, 5, 5}, {api.CallMul, 0, 1, 0, 1, -1, 0}, {api.CallMul, 0.5, 0, 3, 4, 1.5, 2},
		{api.CallDiv, 5, 5, 3, -1, 1, 2}, {api.CallDiv, 3, 4, 0, 2, 2, -1.5}, {api.CallDiv, 1, 0, 3, 0, 1.0 / 3, 0},
	} {
		data := pointsData(f(x.ar), f(x.ai), f(x.br), f(x.bi))
		lays(t, h, data, 200, []uint32{f(x.re), f(x.im)}, x.number, 200, 32, 40)
	}
	if !sameState(h.State(), host.New(7).State()) {
		t.Error("the host became another one")
	}
}

// P17.4: points are reckoned with as binary64 and rounded once at the end.
func TestPointsAreWide(t *testing.T) {
	h := host.New(7)
	// As binary32 the product of the first parts would be without end, and so no difference would be a number.
	data := pointsData(f(0x1p100), f(0x1p100), f(0x1p100), f(0x1p100))
	lays(t, h, data, 0, []uint32{0, 0x7F800000}, api.CallMul, 0, 32, 40)
	lays(t, h, data, 0, []uint32{f(1), 0}, api.CallDiv, 0, 32, 40)
	tells(t, h, data, f(0x1.6a09e6p100), api.CallFar, 32)
	// The squares would vanish as binary32.
	data = pointsData(f(3*0x1p-100), f(4*0x1p-100), f(3*0x1p-100), f(4*0x1p-100))
	lays(t, h, data, 0, []uint32{f(1), 0}, api.CallDiv, 0, 32, 40)
	tells(t, h, data, f(5*0x1p-100), api.CallFar, 32)
	// (1 + e)(1 - e) - 1 * 1 is -e * e, which is lost as binary32.
	e := float32(1.0 / (1 << 20))
	data = pointsData(f(1+e), f(1), f(1-e), f(1))
	lays(t, h, data, 0, []uint32{f(-e * e), f(2)}, api.CallMul, 0, 32, 40)
}

// P17.4: what is without end, no number, or a nought with its sign.
func TestPointsAtTheEdges(t *testing.T) {
	const inf, minus = 0x7F800000, 0x80000000
	h := host.New(7)
	for _, x := range []struct {
		number uint32
		parts  [4]uint32
		want   []uint32
	}{
		{api.CallAdd, [4]uint32{minus, minus, minus, 0}, []uint32{minus, 0}},
		{api.CallAdd, [4]uint32{inf, inf, 0xFF800000, f(1)}, []uint32{api.NaN, inf}},
		{api.CallAdd, [4]uint32{0xFFC12345, f(1), f(1), 0x7F800001}, []uint32{api.NaN, api.NaN}},
		{api.CallAdd, [4]uint32{0x7F7FFFFF, 1, 0x7F7FFFFF, 1}, []uint32{inf, 2}},
		{api.CallMul, [4]uint32{inf, 0, f(1), 0}, []uint32{inf, api.NaN}},
		{api.CallMul, [4]uint32{1, 0, f(0.5), 0}, []uint32{0, 0}},
		{api.CallMul, [4]uint32{3, 0, f(0.5), minus}, []uint32{2, 0}},
		{api.CallMul, [4]uint32{api.NaN, 0, 0, 0}, []uint32{api.NaN, api.NaN}},
		{api.CallDiv, [4]uint32{f(1), 0, 1, 0}, []uint32{inf, 0}},
		{api.CallDiv, [4]uint32{f(1), f(1), inf, 0}, []uint32{api.NaN, api.NaN}},
		{api.CallDiv, [4]uint32{f(1), f(1), api.NaN, 0}, []uint32{api.NaN, api.NaN}},
		{api.CallDiv, [4]uint32{inf, f(1), f(1), 0}, []uint32{inf, api.NaN}},
		{api.CallDiv, [4]uint32{minus, 0, f(1), 0}, []uint32{0, 0}},
	} {
		lays(t, h, pointsData(x.parts[:]...), 0, x.want, x.number, 0, 32, 40)
	}
}

// P17.4: div by a nought of any signs is refused, whatever is divided; by the least number it is not.
func TestDivByNought(t *testing.T) {
	h := host.New(7)
	noughts := []uint32{0, 1 << 31}
	for _, re := range noughts {
		for _, im := range noughts {
			for _, a := range []uint32{0, f(1), 0x7F800000, api.NaN} {
				tells(t, h, pointsData(a, f(2), re, im), 0, api.CallDiv, 0, 32, 40)
				tells(t, h, pointsData(f(2), a, re, im), 0, api.CallDiv, 0, 32, 40)
			}
		}
	}
	lays(t, h, pointsData(2, 0, 1, 0), 0, []uint32{f(2), 0}, api.CallDiv, 0, 32, 40)
	lays(t, h, pointsData(2, 0, 0, 1), 0, []uint32{0, f(-2)}, api.CallDiv, 0, 32, 40)
}

// P17.4, turn: by any word, read as a number with sign.
func TestTurn(t *testing.T) {
	h := host.New(7)
	data := pointsData(f(3), f(4))
	turned := [4][]uint32{{f(3), f(4)}, {f(-4), f(3)}, {f(-3), f(-4)}, {f(4), f(-3)}}
	for c, quarters := range map[uint32]int{
		0: 0, 1: 1, 2: 2, 3: 3, 4: 0, 5: 1, 6: 2, 7: 3, 1000: 0, 1001: 1, 1<<31 - 1: 3, 1<<31 - 2: 2, 1 << 31: 0, 1<<31 + 1: 1, none: 3, none - 1: 2, none - 2: 1, none - 3: 0, none - 4: 3,
	} {
		lays(t, h, data, 8, turned[quarters], api.CallTurn, 8, 32, c)
	}
	// The sign of a nought and of what is without end is turned too; what is no number stays none.
	data = pointsData(0, 0xFF800000)
	lays(t, h, data, 8, []uint32{0x7F800000, 0}, api.CallTurn, 8, 32, 1)
	lays(t, h, data, 8, []uint32{1 << 31, 0x7F800000}, api.CallTurn, 8, 32, 2)
	lays(t, h, data, 8, []uint32{0xFF800000, 1 << 31}, api.CallTurn, 8, 32, 3)
	data = pointsData(0xFFC12345, 1)
	lays(t, h, data, 8, []uint32{api.NaN, 1}, api.CallTurn, 8, 32, 0)
	lays(t, h, data, 8, []uint32{0x80000001, api.NaN}, api.CallTurn, 8, 32, 1)
	lays(t, h, data, 8, []uint32{api.NaN, 0x80000001}, api.CallTurn, 8, 32, 2)
	lays(t, h, data, 8, []uint32{1, api.NaN}, api.CallTurn, 8, 32, 3)
}

// P17.4, far.
func TestFar(t *testing.T) {
	h := host.New(7)
	for _, x := range [][3]uint32{
		{f(3), f(4), f(5)}, {f(-3), f(-4), f(5)}, {0, 0, 0}, {1 << 31, 1 << 31, 0}, {f(1), f(1), f(1.4142135)}, {1, 0, 1}, {0, 0x80000001, 1}, {3, 4, 5}, {1, 1, 1}, {2, 2, 3},
		{0x7F7FFFFF, 0, 0x7F7FFFFF}, {0x7F7FFFFF, 0x7F7FFFFF, 0x7F800000}, {0xFF800000, f(1), 0x7F800000}, {api.NaN, f(1), api.NaN}, {f(1), 0xFFFFFFFF, api.NaN}, {0x7F800000, api.NaN, api.NaN},
	} {
		tells(t, h, pointsData(x[0], x[1]), x[2], api.CallFar, 32)
	}
}

// P17.4, wave: of 1, 2, 4 and 8 points.
func TestWave(t *testing.T) {
	h := host.New(7)
	one, two, three, four := f(1), f(2), f(3), f(4)
	data := pointsData(one, 0, two, 0, three, 0, four, 0, 0, 0, 0, 0, 0, 0, 0, 0)
	lays(t, h, data, 0, []uint32{one, 0}, api.CallWave, 0, 32, 1)
	lays(t, h, data, 0, []uint32{three, 0, f(-1), 0}, api.CallWave, 0, 32, 2)
	lays(t, h, data, 0, []uint32{f(10), 0, f(-2), two, f(-2), 0, f(-2), f(-2)}, api.CallWave, 0, 32, 4)
	// One point of the length 1 and seven noughts: eight times the same.
	data = pointsData(one, 0, 0, 0, 0, 0, 0, 0, 0, 0, 0, 0, 0, 0, 0, 0)
	lays(t, h, data, 0, []uint32{one, 0, one, 0, one, 0, one, 0, one, 0, one, 0, one, 0, one, 0}, api.CallWave, 0, 32, 8)
	// The second one alone goes round the roots, not back.
	root := f(0.70710677)
	data = pointsData(0, 0, one, 0, 0, 0, 0, 0, 0, 0, 0, 0, 0, 0, 0, 0)
	lays(t, h, data, 0, []uint32{one, 0, root, root | 1<<31, 0, f(-1), root | 1<<31, root | 1<<31, f(-1), 0, root | 1<<31, root, 0, one, root, root}, api.CallWave, 0, 32, 8)
	// -0 is lost in a sum that began with 0.
	lays(t, h, pointsData(1<<31, 1<<31), 0, []uint32{0, 0}, api.CallWave, 0, 32, 1)
}

// P17.4, wave: of no other number of points.
func TestWaveOfOthers(t *testing.T) {
	h := host.New(7)
	data := pointsData(f(1), f(2), f(3), f(4))
	for _, c := range []uint32{0, 3, 5, 6, 7, 9, 10, 12, 15, 16, 32, 64, 256, 1<<8 + 1, 1<<16 + 2, 1<<29 + 1, 1<<31 - 1, 1 << 31, 1<<31 + 4, none - 7, none - 1, none} {
		tells(t, h, data, 0, api.CallWave, 0, 32, c)
	}
}

// P17.4: points that go round the segment's end and the words' end; a write begins at the call's own word.
func TestPointsGoRound(t *testing.T) {
	d := newDice(3)
	for _, size := range []int{256, 512} {
		for _, at := range []uint32{uint32(size) - 1, uint32(size) - 4, uint32(size) - 7, uint32(size), none, none - 3, none - 6, none - 40, 1<<31 - 5} {
			parts := []uint32{f(3), f(4), f(1), f(-2)}
			for range 12 {
				parts = append(parts, d.somePart())
			}
			data := words(size, at, parts...)
			h := host.New(7)
			lays(t, h, data, at, []uint32{f(4), f(2)}, api.CallAdd, at, at, at+8)
			lays(t, h, data, none, []uint32{f(11), f(-2)}, api.CallMul, none, at, at+8)
			lays(t, h, data, 5, []uint32{f(-1), f(2)}, api.CallDiv, 5, at, at+8)
			lays(t, h, data, 1<<31, []uint32{f(-4), f(3)}, api.CallTurn, 1<<31, at, 1)
			tells(t, h, data, f(5), api.CallFar, at)
			lays(t, h, data, at, []uint32{f(4), f(2), f(2), f(6)}, api.CallWave, at, at, 2)
			b := bookOf(h.State())
			check(t, h, b, data, api.CallWave, at, at, 4)
			check(t, h, b, data, api.CallWave, at+1, at, 8)
		}
	}
}

// P17.4: one point may be all three of a call.
func TestPointsThatAreOne(t *testing.T) {
	h := host.New(7)
	data := pointsData(f(3), f(4))
	lays(t, h, data, 32, []uint32{f(6), f(8)}, api.CallAdd, 32, 32, 32)
	lays(t, h, data, 32, []uint32{f(-7), f(24)}, api.CallMul, 32, 32, 32)
	lays(t, h, data, 32, []uint32{f(1), 0}, api.CallDiv, 32, 32, 32)
	lays(t, h, data, 32, []uint32{f(3), f(4)}, api.CallTurn, 32, 32, 32)
}

// P17.4: parts from all over, each edge with each edge.
func TestPointsScattered(t *testing.T) {
	s := api.HostState{Console: []byte("so"), Vars: vars(2), Seed: 77, Clock: 5}
	h, b := mustLoad(t, s), bookOf(s)
	d := newDice(4)
	for range 5000 {
		var parts []uint32
		for range 16 {
			parts = append(parts, d.somePart())
		}
		data := pointsData(parts...)
		for number := uint32(api.CallAdd); number <= api.CallTurn; number++ {
			check(t, h, b, data, number, 0, 32, 40+uint32(d.upTo(20)))
		}
		check(t, h, b, data, api.CallFar, 32)
		check(t, h, b, data, api.CallWave, 0, 32, uint32(1)<<d.upTo(3))
	}
}

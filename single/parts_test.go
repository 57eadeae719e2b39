package single_test

import (
	"math"
	"testing"

	"playpen/api"
	"playpen/single"
)

func finite(sign bool, mant uint32, power int) api.Parts {
	return api.Parts{Sort: api.SortFinite, Minus: sign, Mant: mant, Power: power}
}

// P3.1: the tables' rows and their edges.
func TestSplitRows(t *testing.T) {
	cases := map[uint32]api.Parts{
		one:        finite(false, 1<<23, -23),
		0x00000000: finite(false, 0, -149),
		0x80000000: finite(true, 0, -149),
		0x00000001: finite(false, 1, -149),
		0x80000001: finite(true, 1, -149),
		0x007FFFFF: finite(false, 1<<23-1, -149),
		0x00800000: finite(false, 1<<23, -149),
		0x00FFFFFF: finite(false, 1<<24-1, -149),
		0x01000000: finite(false, 1<<23, -148),
		0x7F000000: finite(false, 1<<23, 104),
		0x7F7FFFFF: finite(false, 1<<24-1, 104),
		0xFF7FFFFF: finite(true, 1<<24-1, 104),
		0x7F800000: {Sort: api.SortEndless},
		0xFF800000: {Sort: api.SortEndless, Minus: true},
		0x7F800001: {Sort: api.SortNone},
		0x7FC00000: {Sort: api.SortNone},
		0xFFC00000: {Sort: api.SortNone},
		0xFFFFFFFF: {Sort: api.SortNone},
	}
	for a, want := range cases {
		if got := single.Split(a); got != want {
			t.Errorf("Split(%08X): %v, want %v", a, got, want)
		}
	}
}

// splitBy gives the parts by the document's tables.
func splitBy(a uint32) api.Parts {
	switch {
	case isNone(a):
		return api.Parts{Sort: api.SortNone}
	case isEndless(a):
		return api.Parts{Sort: api.SortEndless, Minus: signOf(a)}
	}
	mant, power := mantAndPower(a)
	return finite(signOf(a), uint32(mant), power)
}

// P3.1, P3.2, P3.14: many words are taken apart and joined again.
func TestSplitAndJoin(t *testing.T) {
	for _, a := range manyWords() {
		got := single.Split(a)
		if want := splitBy(a); got != want {
			t.Fatalf("Split(%08X): %v, want %v", a, got, want)
		}
		if back, err := single.Join(got); back != oneNaN(a) || err != api.OK {
			t.Fatalf("Join(Split(%08X)): %08X, %d", a, back, err)
		}
	}
}

// hasWord tells whether Split gives these parts for a word, as P3.2 lists it.
func hasWord(p api.Parts) bool {
	switch p.Sort {
	case api.SortNone:
		return !p.Minus && p.Mant == 0 && p.Power == 0
	case api.SortEndless:
		return p.Mant == 0 && p.Power == 0
	case api.SortFinite:
		return p.Mant < 1<<24 && p.Power >= -149 && p.Power <= 104 && (p.Mant >= 1<<23 || p.Power == -149)
	}
	return false
}

// P3.2, P3.14: all parts of sorts, mantissas and powers at the edges: those that a word has come back, the others are refused.
func TestJoinEdges(t *testing.T) {
	mants := []uint32{0, 1, 2, 1<<23 - 1, 1 << 23, 1<<23 + 1, 1<<24 - 1, 1 << 24, 1<<24 + 1, 1 << 25, 1<<31 - 1, 1 << 31, 1<<31 + 1<<23, 1<<32 - 1<<23, 1<<32 - 1}
	powers := []int{math.MinInt, math.MinInt + 1, -1 << 32, -405, -256 - 149, -151, -150, -149, -148, -147, -1, 0, 1, 103, 104, 105, 106, 107, 256 - 149, 512 - 149, 1 << 32, 1<<32 - 149, math.MaxInt - 149, math.MaxInt}
	for _, sort := range []api.Sort{0, 1, 2, 3, 4, 5, 128, 255} {
		for _, mant := range mants {
			for _, power := range powers {
				checkJoin(t, api.Parts{Sort: sort, Minus: false, Mant: mant, Power: power})
				checkJoin(t, api.Parts{Sort: sort, Minus: true, Mant: mant, Power: power})
			}
		}
	}
	for power := -160; power <= 120; power++ {
		for _, mant := range mants {
			checkJoin(t, finite(power%2 == 0, mant, power))
		}
	}
}

func checkJoin(t *testing.T, p api.Parts) {
	t.Helper()
	a, err := single.Join(p)
	if !hasWord(p) {
		if a != 0 || err != api.ErrParts {
			t.Errorf("Join(%v): %08X, %d, want ErrParts", p, a, err)
		}
		return
	}
	if err != api.OK || single.Split(a) != p || oneNaN(a) != a {
		t.Errorf("Join(%v): %08X, %d, whose parts are %v", p, a, err, single.Split(a))
	}
}

// P3.11: the sign bit alone is turned, of no number too.
func TestTurned(t *testing.T) {
	for _, a := range manyWords() {
		if got := single.Turned(a); got != a^minus {
			t.Fatalf("Turned(%08X): %08X", a, got)
		}
	}
	if got := single.Turned(0xFFC00001); got != 0x7FC00001 {
		t.Errorf("Turned(FFC00001): %08X", got)
	}
}

package single_test

import (
	"math"
	"math/big"
	"testing"

	"playpen/api"
	"playpen/single"
)

// P3.3: the document's examples, the edges of what is finite, and powers without measure.
func TestRoundRows(t *testing.T) {
	cases := []struct {
		sign  bool
		mant  uint64
		power int
		more  bool
		want  uint32
	}{
		{false, 16777217, 0, false, 0x4B800000},
		{false, 16777217, 0, true, 0x4B800001},
		{false, 16777219, 0, false, 0x4B800002},
		{true, 1, -150, false, 0x80000000},
		{true, 1, -150, true, 0x80000001},
		{false, 0, -149, true, 0},
		{false, 0, -148, true, 1},
		{true, 0, -149, true, 0x80000000},
		{false, 3, -150, false, 2},
		{false, 5, -150, false, 2},
		{false, 5, -150, true, 3},
		{false, 1<<24 - 1, 104, false, most},
		{false, 1<<24 - 1, 104, true, endless},
		{false, 33554431, 103, false, endless},
		{false, 33554430, 103, true, most},
		{true, 33554431, 103, false, endless + minus},
		{false, 1<<24 - 1, 1, true, 0x4C000000},
		{false, 1<<64 - 1, 0, true, 0x5F800000},
		{false, 1<<64 - 1, 64, true, endless},
		{false, 1 << 63, -213, false, 0},
		{false, 1 << 63, -213, true, 1},
		{false, 1<<63 + 1, -213, false, 1},
		{false, 1<<64 - 1, -214, true, 0},
		{false, 0, 5, false, 0},
		{true, 0, 5, false, minus},
		{true, 0, math.MaxInt, false, minus},
		{false, 0, 0, true, 0x3F000000},
		{false, 1, math.MaxInt, false, endless},
		{true, 1, math.MaxInt, true, endless + minus},
		{false, 0, math.MaxInt, true, endless},
		{false, 1<<64 - 1, math.MinInt, true, 0},
		{true, 1<<64 - 1, math.MinInt, true, minus},
		{false, 0, math.MinInt, true, 0},
		{false, 1, 1 << 32, false, endless},
		{false, 1, -1 << 32, false, 0},
	}
	for _, c := range cases {
		if got := single.Round(c.sign, c.mant, c.power, c.more); got != c.want {
			t.Errorf("Round(%v, %d, %d, %v): %08X, want %08X", c.sign, c.mant, c.power, c.more, got, c.want)
		}
	}
}

// roundBy rounds by the document's words: half a step is one step of twice the mantissa at the power below.
func roundBy(sign bool, mant uint64, power int, more bool) uint32 {
	double := new(big.Int).SetUint64(mant)
	double.Lsh(double, 1)
	if more {
		double.Add(double, big.NewInt(1))
	}
	if double.Sign() == 0 {
		return withSign(0, sign)
	}
	return withSign(roundedSize(scaled(double, power-1)), sign)
}

func checkRound(t *testing.T, sign bool, mant uint64, power int, more bool) {
	t.Helper()
	if got, want := single.Round(sign, mant, power, more), roundBy(sign, mant, power, more); got != want {
		t.Fatalf("Round(%v, %d, %d, %v): %08X, want %08X", sign, mant, power, more, got, want)
	}
}

// roundMants gives mantissas of all lengths, among them those that lie half way and right beside it.
func roundMants() []uint64 {
	mants := []uint64{0}
	for length := 1; length <= 64; length++ {
		top := uint64(1) << (length - 1)
		mants = append(mants, top, top+1, 2*top-1, top|0x5555555555555555&(top-1))
		if length > 24 {
			half := uint64(1) << (length - 25)
			mants = append(mants, top+half, top+half-1, top+half+1, top+3*half, top+3*half-1, top+3*half+1, 2*top-half, 2*top-half-1, 2*top-half+1)
		}
	}
	return mants
}

// P3.3: mantissas of all lengths, at powers that bring them to the edges of what is finite and between.
func TestRoundLengths(t *testing.T) {
	for _, mant := range roundMants() {
		length := new(big.Int).SetUint64(mant).BitLen()
		for _, top := range []int{-152, -151, -150, -149, -148, -127, -126, -125, -24, 0, 127, 128, 129} {
			checkRound(t, false, mant, top-length, false)
			checkRound(t, true, mant, top-length, true)
		}
	}
}

// P3.3: every mantissa of a few bits, at every power about the least number.
func TestRoundSmall(t *testing.T) {
	for mant := range uint64(40) {
		for power := -158; power <= -144; power++ {
			checkRound(t, false, mant, power, false)
			checkRound(t, false, mant, power, true)
		}
	}
}

// P3.3, P3.14: the parts of a finite number are brought back to it, and what lies within half a step of it too.
func TestRoundOfParts(t *testing.T) {
	for _, a := range manyWords() {
		p := single.Split(a)
		if p.Sort != api.SortFinite {
			continue
		}
		if got := single.Round(p.Minus, uint64(p.Mant), p.Power, false); got != a {
			t.Fatalf("Round of the parts of %08X: %08X", a, got)
		}
		want := a + p.Mant%2
		if got := single.Round(p.Minus, uint64(p.Mant), p.Power, true); got != want {
			t.Fatalf("Round of the parts of %08X and half a step: %08X, want %08X", a, got, want)
		}
		if got := single.Round(p.Minus, 2*uint64(p.Mant), p.Power-1, true); got != a {
			t.Fatalf("Round of the parts of %08X and a quarter of a step: %08X", a, got)
		}
		if got := single.Round(p.Minus, 2*uint64(p.Mant)+1, p.Power-1, true); got != a+1 {
			t.Fatalf("Round of the parts of %08X and three quarters of a step: %08X", a, got)
		}
	}
}

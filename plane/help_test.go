package plane_test

import (
	"math"
	"math/big"
	"sort"
	"testing"

	"playpen/api"
)

const (
	minusBit = 1 << 63
	endless  = 2047 << 52 // the bits of what is infinite
	hBits    = 0x3FE6A09E667F3BCD
)

var (
	inf   = math.Inf(1)
	nan   = math.NaN()
	minus = math.Copysign(0, -1)
)

func float(bits uint64) float64 { return math.Float64frombits(bits) }

func isNone(x float64) bool    { return math.Float64bits(x)&^minusBit > endless }
func isEndless(x float64) bool { return math.Float64bits(x)&^minusBit == endless }
func isNought(x float64) bool  { return math.Float64bits(x)&^minusBit == 0 }
func hasSign(x float64) bool   { return math.Float64bits(x)&minusBit != 0 }

// turned gives a part with its sign turned, by its bits.
func turned(x float64) float64 { return float(math.Float64bits(x) ^ minusBit) }

// withSign gives a part that has no sign its sign.
func withSign(x float64, sign bool) float64 {
	if sign {
		return turned(x)
	}
	return x
}

func exact(x float64) *big.Rat { return new(big.Rat).SetFloat64(x) }

// rounded gives the nearest binary64 of an exact value that is not 0, by whole numbers.
func rounded(v *big.Rat) float64 {
	x, _ := new(big.Rat).Abs(v).Float64()
	return withSign(x, v.Sign() < 0)
}

// sumBy is the sum of IEEE 754: exact, then rounded.
func sumBy(x, y float64) float64 {
	switch {
	case isNone(x) || isNone(y) || isEndless(x) && isEndless(y) && hasSign(x) != hasSign(y):
		return nan
	case isEndless(x):
		return x
	case isEndless(y):
		return y
	}
	v := new(big.Rat).Add(exact(x), exact(y))
	switch {
	case v.Sign() != 0:
		return rounded(v)
	case isNought(x) && isNought(y) && hasSign(x) && hasSign(y):
		return minus
	}
	return 0
}

func restBy(x, y float64) float64 { return sumBy(x, turned(y)) }

// productBy is the product of IEEE 754: exact, then rounded.
func productBy(x, y float64) float64 {
	sign := hasSign(x) != hasSign(y)
	switch {
	case isNone(x) || isNone(y) || isEndless(x) && isNought(y) || isNought(x) && isEndless(y):
		return nan
	case isEndless(x) || isEndless(y):
		return withSign(inf, sign)
	case isNought(x) || isNought(y):
		return withSign(0, sign)
	}
	return rounded(new(big.Rat).Mul(exact(x), exact(y)))
}

// ratioBy is the quotient of IEEE 754: exact, then rounded.
func ratioBy(x, y float64) float64 {
	sign := hasSign(x) != hasSign(y)
	switch {
	case isNone(x) || isNone(y) || isEndless(x) && isEndless(y) || isNought(x) && isNought(y):
		return nan
	case isEndless(x) || isNought(y):
		return withSign(inf, sign)
	case isNought(x) || isEndless(y):
		return withSign(0, sign)
	}
	return rounded(new(big.Rat).Quo(exact(x), exact(y)))
}

// rootBy is the square root of IEEE 754: squares are held against the value, since a root has no exact value to hold.
func rootBy(x float64) float64 {
	switch {
	case isNone(x) || hasSign(x) && !isNought(x):
		return nan
	case isNought(x) || isEndless(x):
		return x
	}
	v := exact(x)
	over := func(r *big.Rat) int { return v.Cmp(new(big.Rat).Mul(r, r)) }
	// The numbers without sign rise with their bits.
	low := uint64(sort.Search(endless, func(bits int) bool { return over(exact(float(uint64(bits)))) < 0 }) - 1)
	middle := new(big.Rat).Add(exact(float(low)), exact(float(low+1)))
	middle.Mul(middle, big.NewRat(1, 2))
	if side := over(middle); side > 0 || side == 0 && low%2 == 1 {
		low++
	}
	return float(low)
}

// same is P5.1 of two parts.
func same(x, y float64) bool {
	return isNone(x) && isNone(y) || math.Float64bits(x) == math.Float64bits(y)
}

// sameBy is P5.1 word for word.
func sameBy(a, b complex128) bool { return same(real(a), real(b)) && same(imag(a), imag(b)) }

func checkPoint(t *testing.T, what string, got, want complex128) {
	t.Helper()
	if !sameBy(got, want) {
		t.Fatalf("%s: %v, want %v (%016X %016X, want %016X %016X)", what, got, want,
			math.Float64bits(real(got)), math.Float64bits(imag(got)), math.Float64bits(real(want)), math.Float64bits(imag(want)))
	}
}

func checkNumber(t *testing.T, what string, got, want float64) {
	t.Helper()
	checkPoint(t, what, complex(got, 0), complex(want, 0))
}

// answer is what a call says that can refuse.
type answer struct {
	point complex128
	err   api.Errno
}

func answered(point complex128, err api.Errno) answer { return answer{point, err} }

func checkAnswer(t *testing.T, what string, got, want answer) {
	t.Helper()
	if got.err != want.err {
		t.Fatalf("%s: error %d, want %d", what, got.err, want.err)
	}
	checkPoint(t, what, got.point, want.point)
}

// scattered gives so many numbers, always the same ones, from all over.
func scattered(count int) []uint64 {
	list := make([]uint64, count)
	state := uint64(0x9E3779B97F4A7C15)
	for i := range list {
		state ^= state << 13
		state ^= state >> 7
		state ^= state << 17
		list[i] = state * 0x2545F4914F6CDD1D
	}
	return list
}

// edgeParts gives parts at the edges: noughts, what is infinite or no number, the least and the greatest, and such as have squares that just vanish or just run over.
func edgeParts() []float64 {
	list := []float64{
		0, 1, 3, 0.1, inf, float(1), float(1<<52 - 1), float(1 << 52), float(endless - 1), float(hBits), 1 + 1.0/(1<<30),
		0x1p-537, 0x1.6a09e667f3bccp-538, 0x1.6a09e667f3bcdp-538, 1e-200, 0x1p511, 0x1.6a09e667f3bccp511, 0x1p512, 1e200, 1 << 53, 1<<53 + 2,
	}
	for _, x := range append([]float64{}, list...) {
		list = append(list, turned(x))
	}
	return append(list, nan, float(endless+1), float(minusBit+endless+1), float(minusBit+endless+1<<51))
}

// pairPoints gives points few enough that each can be held against each: every edge as a first and as a second part, and some from all over.
func pairPoints() []complex128 {
	parts := edgeParts()
	var points []complex128
	for i, x := range parts {
		points = append(points, complex(x, parts[(i*7+3)%len(parts)]))
	}
	for i, bits := range scattered(12) {
		points = append(points, complex(float(bits), usual(bits, i)))
	}
	return append(points, 0, complex(minus, minus), complex(minus, 0), complex(0, minus), 1, complex(0, 1), complex(inf, inf), complex(nan, nan))
}

// manyPoints gives every edge with every edge.
func manyPoints() []complex128 {
	var points []complex128
	for _, x := range edgeParts() {
		for _, y := range edgeParts() {
			points = append(points, complex(x, y))
		}
	}
	return points
}

// usual gives a part of a usual size, its sign and all bits of its fraction from elsewhere.
func usual(bits uint64, i int) float64 {
	return float(bits&(minusBit|1<<52-1) | uint64(1020+i%7)<<52)
}

// usualPoints gives points of usual sizes, the sums of whose products hang on each rounding: every second one lies nearly in a line with the one ahead of it.
func usualPoints(count int) []complex128 {
	var points []complex128
	list := scattered(2 * count)
	for i := range count {
		a := complex(usual(list[2*i], i), usual(list[2*i+1], i/2))
		points = append(points, a, complex(nextUp(real(a))*3, imag(a)*3))
	}
	return points
}

func nextUp(x float64) float64 { return float(math.Float64bits(x) + 1) }

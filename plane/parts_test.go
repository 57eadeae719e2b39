package plane_test

import (
	"fmt"
	"math"
	"math/big"
	"testing"

	"playpen/plane"
)

// work is a call of two points that gives a point: the program's, and the document's words for it.
type work struct {
	name     string
	ours, by func(a, b complex128) complex128
}

func works() []work {
	return []work{
		{"Add", plane.Add, addBy},
		{"Sub", plane.Sub, subBy},
		{"Mul", plane.Mul, mulBy},
		{"Scale by the first part", func(a, b complex128) complex128 { return plane.Scale(a, real(b)) }, func(a, b complex128) complex128 { return scaleBy(a, real(b)) }},
		{"Dot", numbered(plane.Dot), numbered(dotBy)},
		{"Cross", numbered(plane.Cross), numbered(crossBy)},
	}
}

// numbered makes a call that gives a number one that gives a point.
func numbered(f func(a, b complex128) float64) func(a, b complex128) complex128 {
	return func(a, b complex128) complex128 { return complex(f(a, b), 0) }
}

// P5.2 and P5.4, word for word.

func addBy(a, b complex128) complex128 {
	return complex(sumBy(real(a), real(b)), sumBy(imag(a), imag(b)))
}

func subBy(a, b complex128) complex128 {
	return complex(restBy(real(a), real(b)), restBy(imag(a), imag(b)))
}

func mulBy(a, b complex128) complex128 {
	re := restBy(productBy(real(a), real(b)), productBy(imag(a), imag(b)))
	im := sumBy(productBy(real(a), imag(b)), productBy(imag(a), real(b)))
	return complex(re, im)
}

func scaleBy(a complex128, by float64) complex128 {
	return complex(productBy(real(a), by), productBy(imag(a), by))
}

func dotBy(a, b complex128) float64 {
	return sumBy(productBy(real(a), real(b)), productBy(imag(a), imag(b)))
}

func crossBy(a, b complex128) float64 {
	return restBy(productBy(real(a), imag(b)), productBy(imag(a), real(b)))
}

func squareBy(a complex128) float64 { return dotBy(a, a) }

func lengthBy(a complex128) float64 { return rootBy(squareBy(a)) }

// turnBy is P5.3 word for word.
func turnBy(a complex128, quarters int) complex128 {
	ar, ai := real(a), imag(a)
	q := new(big.Int).Mod(big.NewInt(int64(quarters)), big.NewInt(4)).Int64()
	return [4]complex128{a, complex(turned(ai), ar), complex(turned(ar), turned(ai)), complex(ai, turned(ar))}[q]
}

// P5.1: two parts are the same by their bits, or if both are NaN.
func TestSame(t *testing.T) {
	otherNaN := float(minusBit + endless + 1)
	rows := []struct {
		a, b complex128
		want bool
	}{
		{complex(1, 2), complex(1, 2), true}, {complex(1, 2), complex(2, 1), false}, {complex(1, 2), complex(1, 3), false}, {complex(3, 2), complex(1, 2), false},
		{0, 0, true}, {0, complex(0, minus), false}, {complex(minus, 0), 0, false}, {complex(minus, minus), complex(minus, minus), true},
		{complex(nan, 1), complex(nan, 1), true}, {complex(nan, 1), complex(otherNaN, 1), true}, {complex(1, otherNaN), complex(1, nan), true}, {complex(nan, nan), complex(otherNaN, otherNaN), true},
		{complex(nan, 1), complex(1, nan), false}, {complex(nan, 1), complex(nan, 2), false}, {complex(nan, 1), complex(1, 1), false}, {complex(1, 1), complex(1, nan), false}, {complex(nan, 1), complex(inf, 1), false},
		{complex(inf, 0), complex(inf, 0), true}, {complex(inf, 0), complex(-inf, 0), false}, {complex(1, 1), complex(nextUp(1), 1), false},
	}
	for _, row := range rows {
		if got := plane.Same(row.a, row.b); got != row.want {
			t.Errorf("Same(%v, %v): %v", row.a, row.b, got)
		}
	}
	for _, a := range pairPoints() {
		for _, b := range pairPoints() {
			if got := plane.Same(a, b); got != sameBy(a, b) {
				t.Fatalf("Same(%v, %v): %v", a, b, got)
			}
		}
	}
}

// P5.2, P5.4: the document's examples, and what Go's own product of complex numbers would answer otherwise.
func TestPartRows(t *testing.T) {
	checkPoint(t, "Add", plane.Add(complex(1, 2), complex(3, -2)), complex(4, 0))
	checkPoint(t, "Add of noughts", plane.Add(complex(minus, minus), complex(minus, 0)), complex(minus, 0))
	checkPoint(t, "Sub", plane.Sub(complex(1, 2), complex(3, 2)), complex(-2, 0))
	checkPoint(t, "Sub of noughts", plane.Sub(complex(minus, 0), complex(0, 0)), complex(minus, 0))
	checkPoint(t, "Mul", plane.Mul(complex(1, 2), complex(3, -1)), complex(5, 5))
	checkPoint(t, "Mul of an infinite one", plane.Mul(complex(inf, 0), complex(1, 0)), complex(inf, nan))
	checkPoint(t, "Mul of two infinite ones", plane.Mul(complex(inf, inf), complex(inf, inf)), complex(nan, inf))
	checkPoint(t, "Conj", plane.Conj(complex(1, 0)), complex(1, minus))
	checkPoint(t, "Conj of a nought", plane.Conj(complex(minus, minus)), complex(minus, 0))
	checkPoint(t, "Scale", plane.Scale(complex(1, -2), 0.5), complex(0.5, -1))
	checkPoint(t, "Scale by below nought", plane.Scale(complex(0, 1), -2), complex(minus, -2))
	checkPoint(t, "Scale by an infinite one", plane.Scale(complex(1, 0), inf), complex(inf, nan))
	checkNumber(t, "Dot", plane.Dot(complex(1, 2), complex(3, 4)), 11)
	checkNumber(t, "Cross", plane.Cross(complex(1, 2), complex(3, 4)), -2)
	checkNumber(t, "Square", plane.Square(complex(3, -4)), 25)
	checkNumber(t, "Square that vanishes", plane.Square(complex(1e-200, 0)), 0)
	checkNumber(t, "Length", plane.Length(complex(3, -4)), 5)
	checkNumber(t, "Length of (1, 1)", plane.Length(complex(1, 1)), 1.4142135623730951)
	checkNumber(t, "Length of noughts", plane.Length(complex(minus, minus)), 0)
	checkNumber(t, "Length of a far one", plane.Length(complex(1e200, 0)), inf)
	checkNumber(t, "Length of an infinite one beside a NaN", plane.Length(complex(inf, nan)), nan)
}

// P5.2, P5.4, and what R5 says of them: edges with edges, and points of usual sizes, by exact fractions.
func TestParts(t *testing.T) {
	for _, w := range works() {
		for _, a := range pairPoints() {
			for _, b := range pairPoints() {
				checkPoint(t, fmt.Sprint(w.name, a, b), w.ours(a, b), w.by(a, b))
			}
		}
		points := usualPoints(600)
		for i, b := range points[1:] {
			checkPoint(t, fmt.Sprint(w.name, points[i], b), w.ours(points[i], b), w.by(points[i], b))
		}
	}
}

// R5: what is fused would be another number here.
func TestProductsAreRounded(t *testing.T) {
	x := 1 + 1.0/(1<<30)
	y := 1 + 1.0/(1<<29) // x times x, rounded
	checkPoint(t, "Mul", plane.Mul(complex(x, y), complex(x, 1)), complex(0, mulPart(x, y)))
	checkPoint(t, "Mul, the second part", plane.Mul(complex(x, y), complex(-1, x)), complex(turned(mulPart(x, y)), 0))
	checkNumber(t, "Dot", plane.Dot(complex(x, y), complex(x, -1)), 0)
	checkNumber(t, "Cross", plane.Cross(complex(x, y), complex(1, x)), 0)
	checkNumber(t, "Square of (x, 2^-30)", plane.Square(complex(x, 0x1p-30)), y)
}

// mulPart gives x + x * y, both rounded.
func mulPart(x, y float64) float64 { return sumBy(x, productBy(x, y)) }

// P5.2, P5.4: the calls of one point.
func TestPartsOfOne(t *testing.T) {
	for _, a := range append(manyPoints(), usualPoints(300)...) {
		checkPoint(t, fmt.Sprint("Conj", a), plane.Conj(a), complex(real(a), turned(imag(a))))
		checkNumber(t, fmt.Sprint("Square", a), plane.Square(a), squareBy(a))
		checkNumber(t, fmt.Sprint("Square by Dot", a), plane.Square(a), plane.Dot(a, a))
	}
	for _, a := range append(pairPoints(), usualPoints(100)...) {
		checkNumber(t, fmt.Sprint("Length", a), plane.Length(a), lengthBy(a))
	}
}

// turns gives numbers of quarters, those at both ends too.
func turns() []int {
	list := []int{math.MinInt, math.MinInt + 1, math.MinInt + 2, math.MinInt + 3, math.MaxInt, math.MaxInt - 1, math.MaxInt - 2, math.MaxInt - 3}
	for q := -9; q <= 9; q++ {
		list = append(list, q)
	}
	return list
}

// P5.3: the document's examples, the ends, and the sign of every part.
func TestTurn(t *testing.T) {
	checkPoint(t, "Turn 1", plane.Turn(complex(1, 0), 1), complex(minus, 1))
	checkPoint(t, "Turn -1", plane.Turn(complex(1, 0), -1), complex(0, -1))
	checkPoint(t, "Turn 6", plane.Turn(complex(3, 4), 6), complex(-3, -4))
	checkPoint(t, "Turn 0", plane.Turn(complex(3, minus), 0), complex(3, minus))
	checkPoint(t, "Turn by the least", plane.Turn(complex(3, 4), math.MinInt), complex(3, 4))
	checkPoint(t, "Turn by the greatest", plane.Turn(complex(3, 4), math.MaxInt), complex(4, -3))
	checkPoint(t, "Turn of an infinite one", plane.Turn(complex(inf, minus), 2), complex(-inf, 0))
	for _, a := range manyPoints() {
		for _, q := range turns() {
			checkPoint(t, fmt.Sprint("Turn", a, q), plane.Turn(a, q), turnBy(a, q))
		}
	}
}

// P5.11: a turn behind a turn is one turn.
func TestTurnsAddUp(t *testing.T) {
	for _, a := range pairPoints() {
		for _, p := range turns() {
			for _, q := range turns() {
				if sum := p + q; (sum < p) == (q < 0) {
					checkPoint(t, fmt.Sprint("Turn", a, p, q), plane.Turn(plane.Turn(a, p), q), plane.Turn(a, sum))
				}
			}
		}
	}
}

// P5.11: products and sums the other way round.
func TestOtherWayRound(t *testing.T) {
	check := func(a, b complex128) {
		checkPoint(t, fmt.Sprint("Mul", a, b), plane.Mul(a, b), plane.Mul(b, a))
		checkPoint(t, fmt.Sprint("Add", a, b), plane.Add(a, b), plane.Add(b, a))
		x, y := plane.Cross(a, b), plane.Cross(b, a)
		if !same(x, turned(y)) && !(isNought(x) && isNought(y)) {
			t.Fatalf("Cross of %v and %v: %v, %v", a, b, x, y)
		}
	}
	for _, a := range pairPoints() {
		for _, b := range pairPoints() {
			check(a, b)
		}
	}
	points := usualPoints(2000)
	for i, b := range points[1:] {
		check(points[i], b)
	}
}

package plane_test

import (
	"fmt"
	"testing"

	"playpen/api"
	"playpen/plane"
)

// divBy is P5.5 word for word.
func divBy(a, b complex128) answer {
	d := squareBy(b)
	if isNought(d) {
		return answer{0, api.ErrNought}
	}
	return answer{complex(ratioBy(dotBy(a, b), d), ratioBy(crossBy(b, a), d)), api.OK}
}

// unitBy is P5.6 word for word.
func unitBy(a complex128) answer {
	l := lengthBy(a)
	if isNought(l) {
		return answer{0, api.ErrNought}
	}
	return answer{complex(ratioBy(real(a), l), ratioBy(imag(a), l)), api.OK}
}

// P5.5: the document's examples, and the points that are too near to nought.
func TestDivRows(t *testing.T) {
	rows := []struct {
		a, b, want complex128
		err        api.Errno
	}{
		{complex(5, 5), complex(3, -1), complex(1, 2), api.OK},
		{complex(1, 1), complex(0, minus), 0, api.ErrNought},
		{complex(1, 1), 0, 0, api.ErrNought},
		{complex(nan, inf), complex(minus, minus), 0, api.ErrNought},
		{complex(1, 0), complex(1e-200, 0), 0, api.ErrNought},
		{complex(1, 0), complex(float(1), float(1)), 0, api.ErrNought},
		{complex(1, 0), complex(0, 0x1.6a09e667f3bccp-538), 0, api.ErrNought},
		{complex(0, 0x1.6a09e667f3bcdp-538), complex(0, 0x1.6a09e667f3bcdp-538), 1, api.OK},
		{complex(0x1p-537, 0), complex(0x1p-537, 0), 1, api.OK},
		{complex(0, 0), complex(0, 0x1p-537), 0, api.OK},
		{complex(1, 1), complex(nan, 0), complex(nan, nan), api.OK},
		{complex(1, 1), complex(inf, 0), complex(nan, nan), api.OK},
		{complex(1, 0), complex(1e200, 0), complex(0, 0), api.OK},
		{complex(0, 1), complex(0, 1), 1, api.OK},
		{complex(1, 0), complex(0, 1), complex(0, -1), api.OK},
		{complex(1, 2), complex(1, 0), complex(1, 2), api.OK},
	}
	for _, row := range rows {
		checkAnswer(t, fmt.Sprint("Div", row.a, row.b), answered(plane.Div(row.a, row.b)), answer{row.want, row.err})
	}
}

// P5.5: edges by edges, and points of usual sizes, by exact fractions.
func TestDiv(t *testing.T) {
	check := func(a, b complex128) {
		checkAnswer(t, fmt.Sprint("Div", a, b), answered(plane.Div(a, b)), divBy(a, b))
	}
	for _, a := range pairPoints() {
		for _, b := range pairPoints() {
			check(a, b)
		}
	}
	points := usualPoints(1500)
	for i, b := range points[1:] {
		check(points[i], b)
	}
}

// P5.6: the document's examples, and the points that have no length or one without end.
func TestUnitRows(t *testing.T) {
	rows := []struct {
		a, want complex128
		err     api.Errno
	}{
		{complex(0, -2), complex(0, -1), api.OK},
		{complex(minus, 2), complex(minus, 1), api.OK},
		{complex(3, -4), complex(0.6, -0.8), api.OK},
		{complex(1e200, 0), 0, api.OK},
		{complex(-1e200, minus), complex(minus, minus), api.OK},
		{complex(inf, 1), complex(nan, 0), api.OK},
		{complex(nan, 1), complex(nan, nan), api.OK},
		{0, 0, api.ErrNought},
		{complex(0, minus), 0, api.ErrNought},
		{complex(minus, minus), 0, api.ErrNought},
		{complex(1e-200, -1e-200), 0, api.ErrNought},
	}
	for _, row := range rows {
		checkAnswer(t, fmt.Sprint("Unit", row.a), answered(plane.Unit(row.a)), answer{row.want, row.err})
	}
}

// P5.6: edges and points of usual sizes, by exact fractions.
func TestUnit(t *testing.T) {
	for _, a := range append(pairPoints(), usualPoints(150)...) {
		checkAnswer(t, fmt.Sprint("Unit", a), answered(plane.Unit(a)), unitBy(a))
	}
}

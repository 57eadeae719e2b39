package plane_test

import (
	"fmt"
	"slices"
	"testing"

	"playpen/api"
	"playpen/plane"
)

// polyBy is P5.7 word for word.
func polyBy(coeffs []complex128, z complex128) answer {
	if len(coeffs) > 64 {
		return answer{0, api.ErrCount}
	}
	if len(coeffs) == 0 {
		return answer{0, api.OK}
	}
	value := coeffs[len(coeffs)-1]
	for _, coeff := range slices.Backward(coeffs[:len(coeffs)-1]) {
		value = addBy(mulBy(value, z), coeff)
	}
	return answer{value, api.OK}
}

// P5.7: the document's example, the least and the most coefficients, and one more.
func TestPolyRows(t *testing.T) {
	rows := []struct {
		coeffs  []complex128
		z, want complex128
		err     api.Errno
	}{
		{[]complex128{1, 2, 1}, complex(0, 1), complex(0, 2), api.OK},
		{nil, complex(5, 5), 0, api.OK},
		{[]complex128{}, complex(nan, inf), 0, api.OK},
		{[]complex128{complex(7, minus)}, complex(inf, inf), complex(7, minus), api.OK},
		{[]complex128{complex(minus, minus)}, 2, complex(minus, minus), api.OK},
		{[]complex128{complex(nan, 1)}, 0, complex(nan, 1), api.OK},
		{[]complex128{1, 2}, 10, 21, api.OK},
		{[]complex128{1, 2}, complex(inf, 0), complex(inf, nan), api.OK},
		{slices.Repeat([]complex128{1}, 64), 1, 64, api.OK},
		{slices.Repeat([]complex128{1}, 65), 1, 0, api.ErrCount},
		{slices.Repeat([]complex128{complex(nan, nan)}, 1000), 1, 0, api.ErrCount},
	}
	for _, row := range rows {
		checkAnswer(t, fmt.Sprint("Poly", len(row.coeffs), row.z), answered(plane.Poly(row.coeffs, row.z)), answer{row.want, row.err})
	}
	if api.MaxCoeffs != 64 {
		t.Error("MaxCoeffs", api.MaxCoeffs)
	}
}

// P5.7: coefficients of all kinds, by exact fractions.
func TestPoly(t *testing.T) {
	all := append(usualPoints(40), pairPoints()...)
	for from := range all {
		for _, count := range []int{1, 2, 3, 5, 8, 63, 64, 65} {
			if from+count < len(all) && (count < 60 || from%20 == 0) {
				coeffs, z := all[from:from+count], all[from+count]
				checkAnswer(t, fmt.Sprint("Poly", coeffs, z), answered(plane.Poly(coeffs, z)), polyBy(coeffs, z))
			}
		}
	}
	// Of a z that turns by little no power vanishes or runs over, so each of the 64 is heard.
	z := complex(0.8, 0.6)
	for from := range 16 {
		checkAnswer(t, fmt.Sprint("Poly of 64 from", from), answered(plane.Poly(all[from:from+64], z)), polyBy(all[from:from+64], z))
	}
}

// rootsBy gives the roots as the document tells them, h by its bits.
func rootsBy() [8]complex128 {
	h := float(hBits)
	return [8]complex128{complex(1, 0), complex(h, -h), complex(0, -1), complex(-h, -h), complex(-1, 0), complex(-h, h), complex(0, 1), complex(h, h)}
}

// waveBy is P5.8 word for word.
func waveBy(points []complex128, back bool) ([]complex128, api.Errno) {
	n := len(points)
	if !slices.Contains([]int{1, 2, 4, 8}, n) {
		return nil, api.ErrCount
	}
	list := make([]complex128, n)
	for j := range n {
		var it complex128
		for k := range n {
			e := j * k * (8 / n) % 8
			if back {
				e = (8 - e) % 8
			}
			it = addBy(it, mulBy(points[k], rootsBy()[e]))
		}
		if back {
			it = complex(ratioBy(real(it), float64(n)), ratioBy(imag(it), float64(n)))
		}
		list[j] = it
	}
	return list, api.OK
}

func checkWave(t *testing.T, points []complex128, back bool) {
	t.Helper()
	got, err := plane.Wave(points, back)
	want, wantErr := waveBy(points, back)
	checkList(t, fmt.Sprint("Wave", points, back), got, err, want, wantErr)
}

func checkList(t *testing.T, what string, got []complex128, err api.Errno, want []complex128, wantErr api.Errno) {
	t.Helper()
	if err != wantErr || len(got) != len(want) {
		t.Fatalf("%s: %v, error %d, want %v, error %d", what, got, err, want, wantErr)
	}
	for j := range want {
		checkPoint(t, fmt.Sprint(what, " number ", j), got[j], want[j])
	}
}

// P5.8: the document's examples, to the sign of each nought.
func TestWaveRows(t *testing.T) {
	rows := []struct {
		points []complex128
		back   bool
		want   []complex128
	}{
		{[]complex128{1, 0, 0, 0}, false, []complex128{1, 1, 1, 1}},
		{[]complex128{1, 2, 3, 4}, false, []complex128{10, complex(-2, 2), -2, complex(-2, -2)}},
		{[]complex128{10, complex(-2, 2), -2, complex(-2, -2)}, true, []complex128{1, 2, 3, 4}},
		{[]complex128{complex(minus, minus)}, false, []complex128{0}},
		{[]complex128{complex(inf, 1)}, false, []complex128{complex(inf, nan)}},
		{[]complex128{complex(3, -4)}, true, []complex128{complex(3, -4)}},
		{[]complex128{1, complex(0, 1)}, false, []complex128{complex(1, 1), complex(1, -1)}},
		{[]complex128{2, complex(0, 2)}, true, []complex128{complex(1, 1), complex(1, -1)}},
		{[]complex128{0, 8, 0, 0, 0, 0, 0, 0}, true, []complex128{1, rootsBy()[7], complex(0, 1), rootsBy()[5], -1, rootsBy()[3], complex(0, -1), rootsBy()[1]}},
		{[]complex128{0, 1, 0, 0, 0, 0, 0, 0}, false, []complex128{1, rootsBy()[1], complex(0, -1), rootsBy()[3], -1, rootsBy()[5], complex(0, 1), rootsBy()[7]}},
	}
	for _, row := range rows {
		got, err := plane.Wave(row.points, row.back)
		checkList(t, fmt.Sprint("Wave", row.points, row.back), got, err, row.want, api.OK)
	}
}

// P5.8: every other number of points is refused, and nothing stands beside the error.
func TestWaveCount(t *testing.T) {
	for n := range 70 {
		for _, back := range []bool{false, true} {
			got, err := plane.Wave(make([]complex128, n), back)
			taken := n == 1 || n == 2 || n == 4 || n == 8
			if taken && (err != api.OK || len(got) != n) || !taken && (err != api.ErrCount || len(got) != 0) {
				t.Errorf("Wave of %d points: %d of them, error %d", n, len(got), err)
			}
		}
	}
	if got, err := plane.Wave(nil, false); err != api.ErrCount || len(got) != 0 {
		t.Errorf("Wave of nil: %v, error %d", got, err)
	}
}

// P5.8: points of all kinds, each root at each place, by exact fractions.
func TestWave(t *testing.T) {
	all := append(usualPoints(60), pairPoints()...)
	for _, n := range []int{1, 2, 4, 8} {
		for from := 0; from+n <= len(all); from += 3 {
			checkWave(t, all[from:from+n], false)
			checkWave(t, all[from:from+n], true)
		}
		for k := range n {
			points := make([]complex128, n)
			for _, point := range []complex128{complex(3, 5), complex(minus, 7), complex(inf, 2), complex(nan, 1)} {
				points[k] = point
				checkWave(t, points, false)
				checkWave(t, points, true)
			}
		}
	}
}

// P5.12: there and back of whole numbers up to 2^40 is where it was, but for the sign of a nought.
func TestWaveThereAndBack(t *testing.T) {
	const most = 1 << 40
	wholes := []float64{0, minus, 1, -1, 2, 3, most, -most, most - 1, 1 - most, 12345678901}
	for _, bits := range scattered(200) {
		wholes = append(wholes, float64(int64(bits)%most), float64(int64(bits)%1000))
	}
	whole := func(i int) float64 { return wholes[i%len(wholes)] }
	for _, n := range []int{1, 2, 4} {
		for i := range 5000 {
			points := make([]complex128, n)
			for k := range points {
				points[k] = complex(whole(i+k*k*31), whole(i/3+k*17))
			}
			there, _ := plane.Wave(points, false)
			again, err := plane.Wave(there, true)
			if err != api.OK || !slices.Equal(again, points) { // by == a nought is a nought
				t.Fatalf("Wave of %v: %v, back %v, error %d", points, there, again, err)
			}
		}
	}
}

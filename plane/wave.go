package plane

import "playpen/api"

// Poly gives what a polynomial comes to, its coefficients from the constant one on.
func Poly(coeffs []complex128, z complex128) (complex128, api.Errno) {
	last := len(coeffs) - 1
	if last >= api.MaxCoeffs {
		return 0, api.ErrCount
	}
	if last < 0 {
		return 0, api.OK
	}
	// The last one is taken as it is: a nought times z ahead of it would lose its sign, or be no number.
	value := coeffs[last]
	for i := last - 1; i >= 0; i-- {
		value = Add(Mul(value, z), coeffs[i])
	}
	return value, api.OK
}

// Wave gives the spectrum of 1, 2, 4 or 8 points; back: the points of a spectrum.
func Wave(points []complex128, back bool) ([]complex128, api.Errno) {
	n := len(points)
	switch n {
	case 1, 2, 4, 8:
	default:
		return nil, api.ErrCount
	}
	waves := make([]complex128, n)
	for j := range waves {
		waves[j] = wave(points, j, back)
		if back {
			waves[j], _ = divided(waves[j], float64(n))
		}
	}
	return waves, api.OK
}

// wave gives the sum of the points, each turned by its own multiple of j.
func wave(points []complex128, j int, back bool) complex128 {
	const h = 0.7071067811865476
	roots := [8]complex128{
		complex(1, 0), complex(h, -h), complex(0, -1), complex(-h, -h),
		complex(-1, 0), complex(-h, h), complex(0, 1), complex(h, h),
	}
	var sum complex128
	for k, point := range points {
		e := j * k * (8 / len(points)) % 8
		if back {
			e = (8 - e) % 8
		}
		sum = Add(sum, Mul(point, roots[e]))
	}
	return sum
}

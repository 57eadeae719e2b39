package plane

import "playpen/api"

// Div gives a quotient.
func Div(a complex128, b complex128) (complex128, api.Errno) {
	return divided(complex(Dot(a, b), Cross(b, a)), Square(b))
}

// Unit gives the point of length 1 in the same direction.
func Unit(a complex128) (complex128, api.Errno) { return divided(a, Length(a)) }

// divided gives a point with both parts divided, unless by a nought.
func divided(a complex128, by float64) (complex128, api.Errno) {
	if by == 0 {
		return 0, api.ErrNought
	}
	return complex(real(a)/by, imag(a)/by), api.OK
}

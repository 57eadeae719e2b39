package plane

import (
	"math"

	"playpen/api"
)

// Near gives the nearest point with parts of 32 bits.
func Near(a complex128) complex64 { return complex(float32(real(a)), float32(imag(a))) }

// Far gives the same point with parts of 64 bits.
func Far(a complex64) complex128 { return complex(float64(real(a)), float64(imag(a))) }

// Bits gives the words of a point's parts.
func Bits(a complex64) (uint32, uint32) { return word(real(a)), word(imag(a)) }

// word gives the bits of a part; whatever is no number has those of the one NaN.
func word(x float32) uint32 {
	if x != x {
		return api.NaN
	}
	return math.Float32bits(x)
}

// Of gives the point whose parts' words these are.
func Of(re uint32, im uint32) complex64 {
	return complex(math.Float32frombits(re), math.Float32frombits(im))
}

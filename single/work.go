package single

import "math"

// Sum gives a and b together.
func Sum(a, b uint32) uint32 { return word(number(a) + number(b)) }

// Rest gives a without b.
func Rest(a, b uint32) uint32 { return Sum(a, Turned(b)) }

// Product gives a times b. The conversion keeps the rounding where a sum follows.
func Product(a, b uint32) uint32 { return word(float32(number(a) * number(b))) }

// Ratio gives a over b.
func Ratio(a, b uint32) uint32 { return word(number(a) / number(b)) }

// Root gives the square root. The root is rounded to a binary64 first: that has more than twice the bits, so the second rounding does no harm.
func Root(a uint32) uint32 { return word(float32(math.Sqrt(float64(number(a))))) }

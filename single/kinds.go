package single

import "math"

// wideNaN is the binary64 of all that is no number.
const wideNaN = 0x7FF8000000000000

// Of gives the binary32 nearest to a whole number.
func Of(n int32) uint32 { return word(float32(n)) }

// Toward gives the whole number toward nought, held to the ends of int32.
func Toward(a uint32) int32 {
	x := number(a)
	switch {
	case x != x:
		return 0
	case x >= 1<<31:
		return math.MaxInt32
	case x <= -1<<31:
		return math.MinInt32
	}
	return int32(x)
}

// Wide gives the binary64 that is the same number.
func Wide(a uint32) uint64 {
	if isNone(a) {
		return wideNaN
	}
	return math.Float64bits(float64(number(a)))
}

// Narrow gives the binary32 nearest to a binary64.
func Narrow(b uint64) uint32 { return word(float32(math.Float64frombits(b))) }

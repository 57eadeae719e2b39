package single

import "playpen/api"

// Above gives the next number above.
func Above(a uint32) uint32 {
	switch {
	case isNone(a):
		return api.NaN
	case a == 0 || a == signBit:
		return 1
	case a == endless:
		return endless
	case a&signBit != 0:
		return a - 1
	}
	return a + 1
}

// Below gives the next number below.
func Below(a uint32) uint32 {
	if isNone(a) {
		return api.NaN
	}
	return Turned(Above(Turned(a)))
}

// Stand tells how a stands to b.
func Stand(a, b uint32) api.Side {
	x, y := number(a), number(b)
	switch {
	case x < y:
		return api.SideBelow
	case x == y:
		return api.SideEven
	case x > y:
		return api.SideAbove
	}
	return api.SideNone
}

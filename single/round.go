package single

import "math/bits"

// far is a power beyond which nothing changes: whatever mantissa stands at it, what comes is without end, and at -far a nought.
const far = 1000

// Round gives the binary32 nearest to mant times 2^power (and half a step of mant more, where more says so), with its sign.
func Round(minus bool, mant uint64, power int, more bool) uint32 {
	if mant == 0 && !more {
		return signed(minus, 0)
	}
	mant, power, more = raised(mant, max(-far, min(power, far)), more)
	return signed(minus, nearest(mant, power, more))
}

// raised moves a value that is not 0 up till the highest bit of its mantissa is set; the half step goes into it, if there comes to be room, and may be all of it.
func raised(mant uint64, power int, more bool) (uint64, int, bool) {
	room := bits.LeadingZeros64(mant)
	if room == 0 {
		return mant, power, more
	}
	mant <<= room
	if more {
		mant |= 1 << (room - 1)
	}
	return mant, power - room, false
}

// nearest rounds a mantissa whose highest bit is set to as many bits as a word has for it.
func nearest(mant uint64, power int, more bool) uint32 {
	drop := max(64-24, leastPower-power)
	if drop > 64 {
		return 0 // below half the least number
	}
	power += drop
	if power > mostPower {
		return endless
	}
	kept := uint32(mant >> drop)
	lost := mant & (1<<drop - 1)
	half := uint64(1) << (drop - 1)
	if lost > half || lost == half && (more || kept%2 == 1) {
		kept++
	}
	return finite(kept, power)
}

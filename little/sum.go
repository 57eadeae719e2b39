package little

// base is the number modulo which the two halves of a sum are reckoned: the greatest prime below 65536.
const base = 65521

// Sum gives the sum of bytes.
func Sum(b []byte) uint32 {
	low, high := uint32(1), uint32(0)
	for _, c := range b {
		low = (low + uint32(c)) % base
		high = (high + low) % base
	}
	return high<<16 | low
}

// Join gives the sum of two lists one behind the other: their sums, and how many bytes the second one has.
func Join(a uint32, b uint32, n int) uint32 {
	lowA, highA := halves(a)
	lowB, highB := halves(b)
	// The low half began at 1 in both lists, and base - 1 takes one of the two away.
	low := (lowA + lowB + base - 1) % base
	grown := uint64(max(n, 0)) % base * (lowA + base - 1)
	high := (highA + highB + grown) % base
	return uint32(high<<16 | low)
}

// halves gives the low and the high half of a sum, with room to reckon in.
func halves(sum uint32) (uint64, uint64) {
	return uint64(sum % 65536), uint64(sum / 65536)
}

package figure

import (
	"math/bits"
	"strconv"
	"strings"

	"playpen/api"
)

// Exact writes a binary64 to the base 16, just as it is.
func Exact(x float64) string {
	p := split64(x)
	switch {
	case p.sort != api.SortFinite:
		return Print64(x)
	case p.mant == 0:
		return signOf(p) + "0x0p0"
	}
	room := bits.LeadingZeros64(p.mant)
	rest := strings.TrimRight(padded(strconv.FormatUint(p.mant<<(room+1), 16), 16), "0")
	if rest != "" {
		rest = "." + rest
	}
	return signOf(p) + "0x1" + rest + "p" + strconv.Itoa(p.power+63-room)
}

// Fixed writes a binary64 with so many digits behind the point, rounded once.
func Fixed(x float64, digits int) (string, api.Errno) {
	if digits < 0 || digits > api.MaxFixed {
		return "", api.ErrDigits
	}
	p := split64(x)
	if p.sort != api.SortFinite {
		return Print64(x), api.OK
	}
	text := padded(p.value().times(10, digits).nearest().String(), digits+1)
	if digits == 0 {
		return signOf(p) + text, api.OK
	}
	ahead := len(text) - digits
	return signOf(p) + text[:ahead] + "." + text[ahead:], api.OK
}

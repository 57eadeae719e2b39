package figure

import (
	"math/big"
	"strconv"
	"strings"

	"playpen/api"
)

// Print64 writes a binary64 in the fewest digits that are read back as it.
func Print64(x float64) string { return printed(split64(x), binary64) }

// Print32 writes the binary32 of these bits in the fewest digits that are read back as it.
func Print32(bits uint32) string { return printed(split32(bits), binary32) }

// printed writes a number of either kind.
func printed(p parts, k kind) string {
	switch {
	case p.sort == api.SortNone:
		return "nan"
	case p.sort == api.SortEndless:
		return signOf(p) + "inf"
	case p.mant == 0:
		return signOf(p) + "0.0"
	}
	digits, power := shortest(p, k)
	if power >= -5 && power <= 15 {
		return signOf(p) + placed(digits, power)
	}
	return signOf(p) + placed(digits, 0) + "e" + strconv.Itoa(power)
}

// signOf gives what is written of a number's sign.
func signOf(p parts) string {
	if p.minus {
		return "-"
	}
	return ""
}

// placed writes digits with the point where it belongs, if the first of them stands at that power of ten.
func placed(digits string, power int) string {
	if power < 0 {
		return "0." + strings.Repeat("0", -power-1) + digits
	}
	digits += strings.Repeat("0", max(0, power+2-len(digits)))
	return digits[:power+1] + "." + digits[power+1:]
}

// reach is a number and how far it reaches, down and up: what lies nearer is read as it. The three stand over one number.
type reach struct {
	over, down, up, under *big.Int
	ends                  bool // whether what lies just so far is read as it too
}

// reachOf gives the reach of a finite number that is not 0.
func reachOf(p parts, k kind) *reach {
	v := p.value()
	step := parts{mant: 1, power: p.power}.value()
	r := &reach{
		over:  new(big.Int).Lsh(v.over, 2),
		down:  new(big.Int).Lsh(step.over, 1),
		up:    new(big.Int).Lsh(step.over, 1),
		under: new(big.Int).Lsh(v.under, 2),
		ends:  p.mant%2 == 0,
	}
	if p.mant == 1<<(k.bits-1) && p.power > k.least {
		r.down.Rsh(r.down, 1) // below it the numbers lie closer
	}
	return r
}

// scale brings the number to a tenth, or the other way, as often as the power says.
func (r *reach) scale(power int) {
	if power > 0 {
		r.under.Mul(r.under, raised(10, power))
		return
	}
	size := raised(10, -power)
	r.over.Mul(r.over, size)
	r.down.Mul(r.down, size)
	r.up.Mul(r.up, size)
}

// shortest gives the fewest digits that are read back as a finite number that is not 0, and the power of ten at which the first of them stands.
func shortest(p parts, k kind) (string, int) {
	power := p.value().tens()
	r := reachOf(p, k)
	r.scale(power)
	digits := uint64(0)
	for count := 1; ; count++ {
		digit, end := r.digit()
		digits = digits*10 + digit
		if end {
			text := strconv.FormatUint(digits, 10)
			return strings.TrimRight(text, "0"), power + len(text) - count // a 9 may have become a 10
		}
		r.scale(-1)
	}
}

// digit takes the number's next digit from it; it is the last one, if the digits so far, or those with the last one raised by 1, lie within the reach: then it is chosen out of the two.
func (r *reach) digit() (uint64, bool) {
	whole, _ := new(big.Int).QuoRem(r.over, r.under, r.over)
	digit := whole.Uint64()
	low := r.holds(r.over, r.down)
	high := r.holds(new(big.Int).Sub(r.under, r.over), r.up)
	side := new(big.Int).Lsh(r.over, 1).Cmp(r.under)
	if high && (!low || side > 0 || side == 0 && digit%2 == 1) {
		digit++
	}
	return digit, low || high
}

// holds tells whether a distance lies within the reach to one side.
func (r *reach) holds(distance, side *big.Int) bool {
	order := distance.Cmp(side)
	return order < 0 || order == 0 && r.ends
}

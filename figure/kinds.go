package figure

import (
	"math"
	"math/big"

	"playpen/api"
	"playpen/single"
)

// kind is what the two kinds of binary numbers differ in: the bits of a mantissa, and the powers of two beside it.
type kind struct{ bits, least, most int }

var (
	binary64 = kind{bits: 53, least: -1074, most: 971}
	binary32 = kind{bits: 24, least: -149, most: 104}
)

// parts is a number of either kind taken apart: as api.Parts, with room for the longer mantissa.
type parts struct {
	sort  api.Sort
	minus bool
	mant  uint64
	power int
}

// value gives the exact value of a finite number, without its sign.
func (p parts) value() ratio {
	return ratioOf(new(big.Int).SetUint64(p.mant)).times(2, p.power)
}

// rounded gives the parts, without a sign, of the number of a kind that is nearest to a value; what is too large is without end.
func rounded(v ratio, k kind) parts {
	if v.over.Sign() == 0 {
		return parts{sort: api.SortFinite, power: k.least}
	}
	power := max(v.twos()-k.bits+1, k.least)
	mant := v.times(2, -power).nearest().Uint64()
	if mant == 1<<k.bits {
		mant, power = mant/2, power+1
	}
	if power > k.most {
		return parts{sort: api.SortEndless}
	}
	return parts{sort: api.SortFinite, mant: mant, power: power}
}

// The bits of a binary64.
const (
	fractionBits = 52
	hiddenBit    = 1 << fractionBits
	endless      = 2047
)

// split64 takes a binary64 apart.
func split64(x float64) parts {
	bits := math.Float64bits(x)
	exponent, fraction := int(bits>>fractionBits&endless), bits&(hiddenBit-1)
	p := parts{sort: api.SortFinite, minus: math.Signbit(x), mant: fraction, power: binary64.least}
	switch {
	case exponent == endless && fraction != 0:
		return parts{sort: api.SortNone}
	case exponent == endless:
		return parts{sort: api.SortEndless, minus: p.minus}
	case exponent != 0:
		p.mant, p.power = hiddenBit+fraction, binary64.least+exponent-1
	}
	return p
}

// join64 gives the binary64 of parts.
func join64(p parts) float64 {
	switch {
	case p.sort == api.SortNone:
		return math.NaN()
	case p.sort == api.SortEndless && p.minus:
		return math.Inf(-1)
	case p.sort == api.SortEndless:
		return math.Inf(1)
	}
	// The hidden bit goes into the exponent by the addition: so a small mantissa has the exponent 0.
	bits := uint64(p.power-binary64.least)<<fractionBits + p.mant
	if p.minus {
		bits |= 1 << 63
	}
	return math.Float64frombits(bits)
}

// split32 takes a binary32 apart.
func split32(bits uint32) parts {
	p := single.Split(bits)
	return parts{sort: p.Sort, minus: p.Minus, mant: uint64(p.Mant), power: p.Power}
}

// join32 gives the bits of a binary32's parts.
func join32(p parts) uint32 {
	bits, _ := single.Join(api.Parts{Sort: p.sort, Minus: p.minus, Mant: uint32(p.mant), Power: p.power})
	return bits
}

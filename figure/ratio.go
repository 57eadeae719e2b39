package figure

import (
	"math"
	"math/big"
)

// ratio is an exact value that is not below 0: one whole number over another. Neither is changed once it stands there.
type ratio struct{ over, under *big.Int }

// ratioOf gives the value of a whole number.
func ratioOf(n *big.Int) ratio { return ratio{n, big.NewInt(1)} }

// times gives the value times base to the power.
func (v ratio) times(base int64, power int) ratio {
	size := raised(base, max(power, -power))
	if power < 0 {
		return ratio{v.over, size.Mul(size, v.under)}
	}
	return ratio{size.Mul(size, v.over), v.under}
}

// raised gives base to a power that is not below 0.
func raised(base int64, power int) *big.Int {
	return new(big.Int).Exp(big.NewInt(base), big.NewInt(int64(power)), nil)
}

// isBelowOne tells whether the value is below 1.
func (v ratio) isBelowOne() bool { return v.over.Cmp(v.under) < 0 }

// twos gives the greatest power of two that is not above the value, which is not 0.
func (v ratio) twos() int {
	power := v.over.BitLen() - v.under.BitLen()
	if v.times(2, -power).isBelowOne() {
		return power - 1
	}
	return power
}

// tens gives the greatest power of ten that is not above the value, which is not 0.
func (v ratio) tens() int {
	// The next power of two is not above this power of ten, so the one that is sought lies a step or two below it.
	power := int(math.Ceil(float64(v.twos()+1) * (math.Ln2 / math.Ln10)))
	for v.times(10, -power).isBelowOne() {
		power--
	}
	return power
}

// nearest gives the whole number that is nearest to the value; of two equally near the even one.
func (v ratio) nearest() *big.Int {
	kept, rest := new(big.Int).QuoRem(v.over, v.under, new(big.Int))
	side := rest.Lsh(rest, 1).Cmp(v.under)
	if side > 0 || side == 0 && kept.Bit(0) == 1 {
		kept.Add(kept, big.NewInt(1))
	}
	return kept
}

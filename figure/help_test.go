package figure_test

import (
	"math"
	"math/big"
	"regexp"
	"sort"
	"strings"
)

// The forms of the document, written as such.
var (
	wordForm   = regexp.MustCompile(`^(-?[0-9]+|0x[0-9a-fA-F]+|0b[01]+)$`)
	numberForm = regexp.MustCompile(`^(nan|-?inf|-?[0-9]+(\.[0-9]+)?([eE][+-]?[0-9]+)?|-?0x[0-9a-fA-F]+(\.[0-9a-fA-F]+)?p[+-]?[0-9]+)$`)
)

// completions are ends of which one makes a figure of whatever begins one.
var completions = []string{"", "0", "x0", "b0", "p0", "0p0", "nan", "an", "n", "inf", "nf", "f"}

// begins tells whether a text begins a figure of a form.
func begins(form *regexp.Regexp, s string) bool {
	for _, end := range completions {
		if form.MatchString(s + end) {
			return true
		}
	}
	return false
}

// faultAt gives the place that goes with ErrFigure: that of the first byte with which what is read begins no figure, or the text's length.
func faultAt(form *regexp.Regexp, s string) int {
	for at := range len(s) {
		if !begins(form, s[:at+1]) {
			return at
		}
	}
	return len(s)
}

// texts gives all texts of up to so many of the letters.
func texts(letters string, most int) []string {
	all, last := []string{""}, []string{""}
	for range most {
		var longer []string
		for _, s := range last {
			for i := range len(letters) {
				longer = append(longer, s+letters[i:i+1])
			}
		}
		all, last = append(all, longer...), longer
	}
	return all
}

// powerOf gives base to a power, exactly.
func powerOf(base int64, power int) *big.Rat {
	size := new(big.Rat).SetInt(new(big.Int).Exp(big.NewInt(base), big.NewInt(int64(max(power, -power))), nil))
	if power < 0 {
		return size.Inv(size)
	}
	return size
}

// valueOf gives the exact value, without its sign, of a figure that has digits and whose power is not beyond all bounds.
func valueOf(s string) *big.Rat {
	s = strings.TrimPrefix(s, "-")
	digits, base, marks := s, int64(10), "eE"
	if strings.HasPrefix(s, "0x") {
		digits, base, marks = s[2:], 16, "p"
	}
	power := new(big.Int)
	if at := strings.IndexAny(digits, marks); at >= 0 {
		power.SetString(strings.TrimPrefix(digits[at+1:], "+"), 10)
		digits = digits[:at]
	}
	ahead, behind, _ := strings.Cut(digits, ".")
	mant, _ := new(big.Int).SetString(ahead+behind, int(base))
	v := new(big.Rat).SetInt(mant)
	v.Mul(v, powerOf(base, -len(behind)))
	if base == 16 {
		base = 2
	}
	return v.Mul(v, powerOf(base, int(power.Int64())))
}

// side is one of the two kinds, as the document tells of it: the bits of numbers without sign rise with the numbers.
type side struct {
	fraction int    // bits of the fraction
	least    int    // the power of the least number
	endless  uint64 // the bits of what is without end
}

var (
	wideSide   = side{52, -1074, 2047 << 52}
	narrowSide = side{23, -149, 255 << 23}
)

// value gives the exact value of a finite number by its bits.
func (k side) value(bits uint64) *big.Rat {
	hidden := uint64(1) << k.fraction
	exponent, fraction := int(bits/hidden), bits%hidden
	if exponent == 0 {
		exponent, hidden = 1, 0
	}
	v := new(big.Rat).SetInt(new(big.Int).SetUint64(hidden + fraction))
	return v.Mul(v, powerOf(2, k.least+exponent-1))
}

// tooLarge gives the value from which on a value is too large: the middle between the greatest finite number and the next power of two.
func (k side) tooLarge() *big.Rat {
	most := k.value(k.endless - 1)
	below := k.value(k.endless - 2)
	step := new(big.Rat).Sub(most, below)
	return most.Add(most, step.Mul(step, big.NewRat(1, 2)))
}

// nearest gives the bits of the finite number that is nearest to a value, found by search; false, if the value is too large.
func (k side) nearest(v *big.Rat) (uint64, bool) {
	if v.Cmp(k.tooLarge()) >= 0 {
		return 0, false
	}
	low := uint64(sort.Search(int(k.endless), func(bits int) bool { return k.value(uint64(bits)).Cmp(v) > 0 }) - 1)
	if low == k.endless-1 {
		return low, true
	}
	down := new(big.Rat).Sub(v, k.value(low))
	up := new(big.Rat).Sub(k.value(low+1), v)
	if order := down.Cmp(up); order > 0 || order == 0 && low%2 == 1 {
		low++
	}
	return low, true
}

// middle gives the value half way between a finite number and the next.
func (k side) middle(bits uint64) *big.Rat {
	if bits == k.endless-1 {
		return k.tooLarge()
	}
	sum := new(big.Rat).Add(k.value(bits), k.value(bits+1))
	return sum.Mul(sum, big.NewRat(1, 2))
}

// scattered gives so many numbers, always the same ones, from all over.
func scattered(count int) []uint64 {
	list := make([]uint64, count)
	state := uint64(0x9E3779B97F4A7C15)
	for i := range list {
		state ^= state << 13
		state ^= state >> 7
		state ^= state << 17
		list[i] = state * 0x2545F4914F6CDD1D
	}
	return list
}

// edges gives the bits of finite numbers without sign at the edges of the exponents, of each so many in a row.
func (k side) edges(every int) []uint64 {
	hidden := uint64(1) << k.fraction
	var list []uint64
	for exponent := uint64(0); exponent <= k.endless/hidden; exponent += uint64(every) {
		for _, fraction := range []uint64{0, 1, 2, hidden/2 - 1, hidden / 2, hidden/2 + 1, hidden - 2, hidden - 1} {
			if bits := exponent*hidden + fraction; bits < k.endless {
				list = append(list, bits)
			}
		}
	}
	return append(list, k.endless-1, k.endless-2)
}

// numbers gives bits of finite numbers without sign: edges, small wholes, powers of ten and their neighbours, and others from all over.
func (k side) numbers(every, others int) []uint64 {
	list := k.edges(every)
	for n := int64(1); n < 1200; n += 7 {
		bits, _ := k.nearest(big.NewRat(n, 1))
		part, _ := k.nearest(big.NewRat(n, 1000))
		list = append(list, bits, part, uint64(n))
	}
	for power := -323; power <= 308; power += 4 {
		if bits, ok := k.nearest(powerOf(10, power)); ok && bits > 0 && bits < k.endless-1 {
			list = append(list, bits-1, bits, bits+1)
		}
	}
	for _, bits := range scattered(others) {
		list = append(list, bits%k.endless)
	}
	return list
}

func float(bits uint64) float64 { return math.Float64frombits(bits) }

const (
	minus64 = 1 << 63
	minus32 = 1 << 31
)

// hexFigure writes a value that is a whole number times a power of two as a figure: its digits and the power.
func hexFigure(v *big.Rat) string {
	twos := v.Denom().BitLen() - 1
	num := v.Num()
	low := int(num.TrailingZeroBits())
	return "0x" + new(big.Int).Rsh(num, uint(low)).Text(16) + "p" + big.NewInt(int64(low-twos)).String()
}

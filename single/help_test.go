package single_test

import (
	"math/big"
	"slices"
	"sort"

	"playpen/api"
)

const (
	one     = 0x3F800000
	two     = 0x40000000
	three   = 0x40400000
	most    = 0x7F7FFFFF
	endless = 0x7F800000
	minus   = 0x80000000
)

// The parts of a word, by the document's table.

func signOf(a uint32) bool      { return a/(1<<31) == 1 }
func exponentOf(a uint32) int   { return int(a / (1 << 23) % 256) }
func fractionOf(a uint32) int64 { return int64(a % (1 << 23)) }

func isNone(a uint32) bool    { return exponentOf(a) == 255 && fractionOf(a) != 0 }
func isEndless(a uint32) bool { return exponentOf(a) == 255 && fractionOf(a) == 0 }
func isFinite(a uint32) bool  { return exponentOf(a) != 255 }
func isNought(a uint32) bool  { return a%minus == 0 }

// mantAndPower gives both of a finite word.
func mantAndPower(a uint32) (int64, int) {
	if exponentOf(a) == 0 {
		return fractionOf(a), -149
	}
	return 1<<23 + fractionOf(a), exponentOf(a) - 150
}

// scaled gives mant times 2^power, exactly.
func scaled(mant *big.Int, power int) *big.Rat {
	v := new(big.Rat).SetInt(mant)
	step := new(big.Int).Lsh(big.NewInt(1), uint(max(power, -power)))
	if power < 0 {
		return v.Quo(v, new(big.Rat).SetInt(step))
	}
	return v.Mul(v, new(big.Rat).SetInt(step))
}

// valueOf gives the exact value of a finite word.
func valueOf(a uint32) *big.Rat {
	mant, power := mantAndPower(a)
	v := scaled(big.NewInt(mant), power)
	if signOf(a) {
		v.Neg(v)
	}
	return v
}

// withSign gives a word that has no sign its sign.
func withSign(a uint32, sign bool) uint32 {
	if sign {
		return a + minus
	}
	return a
}

// oneNaN gives the one NaN of no number, and all else as it is.
func oneNaN(a uint32) uint32 {
	if isNone(a) {
		return api.NaN
	}
	return a
}

// endlessFrom is the size from which on a value is rounded to what is without end.
func endlessFrom() *big.Rat { return scaled(big.NewInt(1<<25-1), 103) }

// rounded gives an exact value that is not 0 rounded, by the document's words: of the finite numbers of its sign the nearest is searched.
func rounded(v *big.Rat) uint32 {
	size := new(big.Rat).Abs(v)
	return withSign(roundedSize(size), v.Sign() < 0)
}

func roundedSize(size *big.Rat) uint32 {
	if size.Cmp(endlessFrom()) >= 0 {
		return endless
	}
	// The numbers without sign rise with their words.
	low := uint32(sort.Search(endless, func(a int) bool { return valueOf(uint32(a)).Cmp(size) > 0 }) - 1)
	if low == most {
		return most
	}
	down := new(big.Rat).Sub(size, valueOf(low))
	up := new(big.Rat).Sub(valueOf(low+1), size)
	return nearer(low, down.Cmp(up))
}

// nearer chooses between a finite word and the next: the nearer, or the one whose Mant is even.
func nearer(low uint32, side int) uint32 {
	mant, _ := mantAndPower(low)
	if side > 0 || side == 0 && mant%2 == 1 {
		return low + 1
	}
	return low
}

// rootRounded gives the square root of a value above 0, rounded: squares are held against the value, since a root has no exact value to hold.
func rootRounded(v *big.Rat) uint32 {
	squareOver := func(r *big.Rat) int { return v.Cmp(new(big.Rat).Mul(r, r)) }
	low := uint32(sort.Search(endless, func(a int) bool { return squareOver(valueOf(uint32(a))) < 0 }) - 1)
	return nearer(low, squareOver(halfWay(low, low+1)))
}

// halfWay gives the value in the middle of two words, of which one may be what lies beyond the greatest finite number.
func halfWay(a, b uint32) *big.Rat {
	for _, word := range []uint32{a, b} {
		if isEndless(word) && signOf(word) {
			return new(big.Rat).Neg(endlessFrom())
		}
		if isEndless(word) {
			return endlessFrom()
		}
	}
	sum := new(big.Rat).Add(valueOf(a), valueOf(b))
	return sum.Mul(sum, big.NewRat(1, 2))
}

// edgeWords gives words of both signs at the edges of each of the exponents.
func edgeWords(exponents ...uint32) []uint32 {
	var words []uint32
	for _, exponent := range exponents {
		for _, fraction := range []uint32{0, 1, 2, 1<<22 - 1, 1 << 22, 1<<22 + 1, 0x2AAAAB, 1<<23 - 2, 1<<23 - 1} {
			words = append(words, exponent<<23+fraction, minus+exponent<<23+fraction)
		}
	}
	return words
}

// everyEdge gives the edges of all exponents.
func everyEdge() []uint32 {
	var exponents []uint32
	for exponent := range uint32(256) {
		exponents = append(exponents, exponent)
	}
	return edgeWords(exponents...)
}

// scattered gives so many words, always the same ones, from all over.
func scattered(count int) []uint32 {
	words := make([]uint32, count)
	state := uint64(0x9E3779B97F4A7C15)
	for i := range words {
		state = state*6364136223846793005 + 1442695040888963407
		words[i] = uint32(state >> 32)
	}
	return words
}

// manyWords gives some thousands of words, edges and others.
func manyWords() []uint32 { return append(everyEdge(), scattered(20000)...) }

// someWords gives words few enough that each can be held against each.
func someWords() []uint32 {
	words := []uint32{
		one, one + 1, one - 1, two, three, 0x3F000000, 0x3DCCCCCD, 0x3E4CCCCD, 0x3FB504F3, 0x4B800000, 0x4B800001, 0x4B7FFFFF, 0x33800000, 0x33800001, 0x33000000,
		0, 1, 2, 3, 5, 0x007FFFFF, 0x00800000, 0x00800001, 0x00FFFFFF, 0x01000000, 0x00400000, 0x1FFFFFFF, 0x20000000, 0x5F000000, 0x5F7FFFFF,
		0x73000000, 0x72FFFFFF, 0x73800000, 0x7E800000, 0x7F000000, 0x7F7FFFFE, most, endless, api.NaN, 0x7F800001, 0x7FFFFFFF, 0x4F000000,
	}
	for _, a := range slices.Clone(words) {
		words = append(words, a^minus)
	}
	return append(words, scattered(24)...)
}

// rising gives those of the words that are numbers, from the least to the greatest.
func rising(words []uint32) []uint32 {
	numbers := slices.DeleteFunc(slices.Clone(words), isNone)
	slices.SortFunc(numbers, order)
	return numbers
}

// order tells how two numbers stand, by their values: below 0, 0, above 0.
func order(a, b uint32) int { return place(a) - place(b) }

// place gives the place of a number among all of them; the noughts have one place, 0.
func place(a uint32) int {
	if signOf(a) {
		return -int(a - minus)
	}
	return int(a)
}

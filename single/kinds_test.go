package single_test

import (
	"math"
	"math/big"
	"slices"
	"testing"

	"playpen/api"
	"playpen/single"
)

// wholes gives whole numbers at the edges of their bits, and some from all over.
func wholes() []int32 {
	numbers := []int32{0, math.MinInt32, math.MinInt32 + 1, math.MaxInt32}
	for bit := range 31 {
		for _, off := range []int32{-3, -2, -1, 0, 1, 2, 3} {
			numbers = append(numbers, 1<<bit+off, -1<<bit+off)
		}
	}
	for _, a := range scattered(3000) {
		numbers = append(numbers, int32(a), int32(a)>>8)
	}
	return numbers
}

// P3.12, P3.17: whole numbers rounded.
func TestOf(t *testing.T) {
	rows := map[int32]uint32{0: 0, 1: one, -1: 0xBF800000, 16777215: 0x4B7FFFFF, 16777216: 0x4B800000, 16777217: 0x4B800000, 16777219: 0x4B800002, -16777217: 0xCB800000, math.MaxInt32: 0x4F000000, math.MinInt32: 0xCF000000}
	for n, want := range rows {
		if got := single.Of(n); got != want {
			t.Errorf("Of(%d): %08X, want %08X", n, got, want)
		}
	}
	numbers := wholes()
	slices.Sort(numbers)
	last := uint32(minus + endless)
	for _, n := range numbers {
		got, want := single.Of(n), uint32(0)
		if n != 0 {
			want = rounded(big.NewRat(int64(n), 1))
		}
		if got != want || single.Stand(last, got) == api.SideAbove {
			t.Fatalf("Of(%d): %08X, want %08X, not below %08X", n, got, want, last)
		}
		last = got
	}
}

// towardBy is P3.12 word for word.
func towardBy(a uint32) int32 {
	switch {
	case isNone(a):
		return 0
	case isEndless(a) && signOf(a):
		return math.MinInt32
	case isEndless(a):
		return math.MaxInt32
	}
	v := valueOf(a)
	whole := new(big.Int).Quo(v.Num(), v.Denom())
	switch {
	case whole.Cmp(big.NewInt(math.MaxInt32)) > 0:
		return math.MaxInt32
	case whole.Cmp(big.NewInt(math.MinInt32)) < 0:
		return math.MinInt32
	}
	return int32(whole.Int64())
}

// P3.12: the whole number toward nought, held to the ends.
func TestToward(t *testing.T) {
	rows := map[uint32]int32{
		0xC0600000: -3, 0x40600000: 3, 0x3F7FFFFF: 0, 0xBF7FFFFF: 0, one: 1, minus + one: -1, 0: 0, minus: 0, 1: 0, minus + 1: 0,
		0x4F000000: math.MaxInt32, 0x4EFFFFFF: 2147483520, 0xCEFFFFFF: -2147483520, 0xCF000000: math.MinInt32, 0xCF000001: math.MinInt32,
		endless: math.MaxInt32, minus + endless: math.MinInt32, api.NaN: 0, 0x7F800001: 0, 0xFFFFFFFF: 0, most: math.MaxInt32, minus + most: math.MinInt32,
	}
	for a, want := range rows {
		if got := single.Toward(a); got != want {
			t.Errorf("Toward(%08X): %d, want %d", a, got, want)
		}
	}
	for _, a := range manyWords() {
		if got, want := single.Toward(a), towardBy(a); got != want {
			t.Fatalf("Toward(%08X): %d, want %d", a, got, want)
		}
	}
}

// wideValue gives the exact value of a finite binary64, by the document's words.
func wideValue(b uint64) *big.Rat {
	exponent, fraction := int(b/(1<<52)%2048), int64(b%(1<<52))
	v := scaled(big.NewInt(fraction), -1074)
	if exponent != 0 {
		v = scaled(big.NewInt(1<<52+fraction), exponent-1075)
	}
	if b/(1<<63) == 1 {
		v.Neg(v)
	}
	return v
}

// P3.13, P3.14: the binary64 of a word is the same number with the same sign, and leads back.
func TestWide(t *testing.T) {
	rows := map[uint32]uint64{
		one: 0x3FF0000000000000, 0: 0, minus: 1 << 63, 1: 0x36A0000000000000, minus + 1: 0xB6A0000000000000, 0x007FFFFF: 0x380FFFFFC0000000, most: 0x47EFFFFFE0000000,
		endless: 0x7FF0000000000000, minus + endless: 0xFFF0000000000000, api.NaN: 0x7FF8000000000000, 0x7F800001: 0x7FF8000000000000, 0xFFFFFFFF: 0x7FF8000000000000,
	}
	for a, want := range rows {
		if got := single.Wide(a); got != want {
			t.Errorf("Wide(%08X): %016X, want %016X", a, got, want)
		}
	}
	for _, a := range manyWords() {
		got := single.Wide(a)
		if back := single.Narrow(got); back != oneNaN(a) {
			t.Fatalf("Narrow(Wide(%08X)): %08X", a, back)
		}
		if isNone(a) && got != 0x7FF8000000000000 {
			t.Fatalf("Wide(%08X): %016X", a, got)
		}
		if isFinite(a) && (wideValue(got).Cmp(valueOf(a)) != 0 || got>>63 != uint64(a>>31)) {
			t.Fatalf("Wide(%08X): %016X", a, got)
		}
	}
}

// narrowBy is P3.13 word for word.
func narrowBy(b uint64) uint32 {
	sign := b/(1<<63) == 1
	switch {
	case b%(1<<63) > 2047<<52:
		return api.NaN
	case b%(1<<63) == 2047<<52:
		return withSign(endless, sign)
	case b%(1<<63) == 0:
		return withSign(0, sign)
	}
	return rounded(wideValue(b))
}

// P3.13: the rows and edges of Narrow.
func TestNarrowRows(t *testing.T) {
	rows := map[uint64]uint32{
		0x3FB999999999999A: 0x3DCCCCCD, 0: 0, 1 << 63: minus, 1: 0, 1<<63 + 1: minus,
		0x47EFFFFFEFFFFFFF: most, 0x47EFFFFFF0000000: endless, 0xC7EFFFFFF0000000: minus + endless, 0x7FEFFFFFFFFFFFFF: endless,
		0x3690000000000000: 0, 0x3690000000000001: 1, 0xB690000000000001: minus + 1, 0x36A8000000000000: 2, 0x36B4000000000000: 2,
		0x7FF0000000000000: endless, 0xFFF0000000000000: minus + endless, 0x7FF0000000000001: api.NaN, 0xFFF0000000000001: api.NaN, 0x7FF8000000000000: api.NaN, 0xFFFFFFFFFFFFFFFF: api.NaN,
		0x3FF0000010000000: one, 0x3FF0000010000001: one + 1, 0x3FF0000030000000: one + 2, 0x3FF000002FFFFFFF: one + 1,
	}
	for b, want := range rows {
		if got := single.Narrow(b); got != want {
			t.Errorf("Narrow(%016X): %08X, want %08X", b, got, want)
		}
	}
}

// wides gives binary64s about those of words and about the half ways between them, and some from all over.
func wides() []uint64 {
	var list []uint64
	for i, a := range append(everyEdge(), scattered(2000)...) {
		b := math.Float64bits(float64(math.Float32frombits(a)))
		list = append(list, b, b+1, b-1, b+1<<28, b+1<<28-1, b+1<<28+1, uint64(a)<<32+uint64(i)*0x9E3779B1)
	}
	return list
}

// P3.13: binary64s of all kinds are rounded.
func TestNarrow(t *testing.T) {
	for _, b := range wides() {
		if got, want := single.Narrow(b), narrowBy(b); got != want {
			t.Fatalf("Narrow(%016X): %08X, want %08X", b, got, want)
		}
	}
}

// P3.17: Narrow keeps the order.
func TestNarrowKeepsOrder(t *testing.T) {
	list := slices.DeleteFunc(wides(), func(b uint64) bool { return b%(1<<63) > 2047<<52 })
	slices.SortFunc(list, func(b, c uint64) int { return new(big.Int).Sub(widePlace(b), widePlace(c)).Sign() })
	last := uint32(minus + endless)
	for _, b := range list {
		got := single.Narrow(b)
		if single.Stand(last, got) != api.SideBelow && single.Stand(last, got) != api.SideEven {
			t.Fatalf("Narrow(%016X): %08X, of one that is not above it %08X", b, got, last)
		}
		last = got
	}
}

// widePlace gives the place of a binary64 among all of them.
func widePlace(b uint64) *big.Int {
	place := new(big.Int).SetUint64(b % (1 << 63))
	if b/(1<<63) == 1 {
		place.Neg(place)
	}
	return place
}

// P3.18: whole numbers of up to 2^24 come back.
func TestWholeBack(t *testing.T) {
	check := func(n int32) {
		if got := single.Toward(single.Of(n)); got != n {
			t.Fatalf("Toward(Of(%d)): %d", n, got)
		}
	}
	for n := int32(-1 << 24); n <= 1<<24; n += 97 {
		check(n)
	}
	for n := int32(0); n < 5000; n++ {
		check(n)
		check(-n)
		check(1<<24 - n)
		check(n - 1<<24)
	}
}

// P3.18: sums and products of such whole numbers are those of whole numbers.
func TestWholeWork(t *testing.T) {
	for n := int32(-1 << 24); n <= 1<<24; n += 66049 {
		for m := int32(-1 << 24); m <= 1<<24; m += 67049 {
			if n+m < -1<<24 || n+m > 1<<24 {
				continue
			}
			if got := single.Sum(single.Of(n), single.Of(m)); got != single.Of(n+m) {
				t.Fatalf("Sum of %d and %d: %08X", n, m, got)
			}
		}
	}
	for n := int32(-4096); n <= 4096; n += 16 {
		for m := int32(-4096); m <= 4096; m += 31 {
			checkWholeProduct(t, n, m)
			checkWholeProduct(t, n+m%16, m)
		}
	}
	checkWholeProduct(t, 4096, 4096)
	checkWholeProduct(t, 4095, -4095)
}

func checkWholeProduct(t *testing.T, n, m int32) {
	if n < -4096 || n > 4096 {
		return
	}
	if got := single.Product(single.Of(n), single.Of(m)); single.Stand(got, single.Of(n*m)) != api.SideEven {
		t.Fatalf("Product of %d and %d: %08X", n, m, got)
	}
}

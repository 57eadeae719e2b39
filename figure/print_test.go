package figure_test

import (
	"math"
	"math/big"
	"strconv"
	"strings"
	"testing"

	"playpen/api"
	"playpen/figure"
)

// P4.4: the examples, and the edges of both ways of writing.
func TestPrint64Rows(t *testing.T) {
	cases := []struct {
		x    float64
		want string
	}{
		{math.NaN(), "nan"}, {float(0x7FF0000000000001), "nan"}, {float(0xFFFFFFFFFFFFFFFF), "nan"}, {math.Inf(1), "inf"}, {math.Inf(-1), "-inf"}, {0, "0.0"}, {math.Copysign(0, -1), "-0.0"},
		{1, "1.0"}, {-1, "-1.0"}, {0.1, "0.1"}, {-2.5, "-2.5"}, {10, "10.0"}, {12, "12.0"}, {100, "100.0"}, {123456, "123456.0"}, {1234.5, "1234.5"}, {0.5, "0.5"}, {0.05, "0.05"}, {0.00123, "0.00123"},
		{1e15, "1000000000000000.0"}, {1e16, "1.0e16"}, {9999999999999998, "9999999999999998.0"}, {1234567890123456, "1234567890123456.0"}, {12345678901234568, "1.2345678901234568e16"}, {123456789012345.6, "123456789012345.6"}, {-1.5e16, "-1.5e16"}, {1e22, "1.0e22"}, {1e23, "1.0e23"}, {1e100, "1.0e100"},
		{0.00001, "0.00001"}, {0.000012, "0.000012"}, {0.0000099, "9.9e-6"}, {0.000001, "1.0e-6"}, {-1.25e-7, "-1.25e-7"}, {1e-10, "1.0e-10"}, {1e-100, "1.0e-100"},
		{5e-324, "5.0e-324"}, {-5e-324, "-5.0e-324"}, {1e-323, "1.0e-323"}, {1.5e-323, "1.5e-323"}, {math.MaxFloat64, "1.7976931348623157e308"}, {0x1p-1022, "2.2250738585072014e-308"}, {0x0.fffffffffffffp-1022, "2.225073858507201e-308"},
		{1125899906842624.25, "1125899906842624.2"}, {1125899906842624.75, "1125899906842624.8"}, {1 << 53, "9007199254740992.0"}, {9007199254740993, "9007199254740992.0"}, {0x1p-44, "5.684341886080802e-14"}, {0x1p-1, "0.5"}, {1.0 / 3, "0.3333333333333333"}, {2.0 / 3, "0.6666666666666666"}, {0.1 + float(math.Float64bits(0.2)), "0.30000000000000004"},
	}
	for _, c := range cases {
		if got := figure.Print64(c.x); got != c.want {
			t.Errorf("Print64(%v): %s, want %s", c.x, got, c.want)
		}
	}
}

// P4.5: the same of binary32 numbers, and every NaN is nan.
func TestPrint32Rows(t *testing.T) {
	cases := map[uint32]string{
		api.NaN: "nan", 0x7F800001: "nan", 0xFF800001: "nan", 0xFFFFFFFF: "nan", 0x7F800000: "inf", 0xFF800000: "-inf", 0: "0.0", minus32: "-0.0",
		0x3F800000: "1.0", 0xBF800000: "-1.0", 0x3DCCCCCD: "0.1", 0x4B800000: "16777216.0", 0x4B800001: "16777218.0", 0x7F7FFFFF: "3.4028235e38", 0xFF7FFFFF: "-3.4028235e38",
		1: "1.0e-45", minus32 + 1: "-1.0e-45", 2: "3.0e-45", 3: "4.0e-45", 7: "1.0e-44", 0x00800000: "1.1754944e-38", 0x007FFFFF: "1.1754942e-38", 0x00FFFFFF: "2.3509886e-38",
		0x58635FA9: "1000000000000000.0", 0x5A0E1BCA: "1.0e16", 0x3727C5AC: "0.00001", 0x358637BD: "1.0e-6", 0x501502F9: "10000000000.0", 0x40490FDB: "3.1415927", 0x3EAAAAAB: "0.33333334",
	}
	for bits, want := range cases {
		if got := figure.Print32(bits); got != want {
			t.Errorf("Print32(%08X): %s, want %s", bits, got, want)
		}
	}
}

// digitsFor gives those of the two numbers of so many digits about a value that are read back as a number: the nearer first, of two equally near the even one.
func digitsFor(k side, bits uint64, count, power int) []*big.Int {
	v := k.value(bits)
	step := powerOf(10, power-count+1)
	scaled := new(big.Rat).Quo(v, step)
	low := new(big.Int).Quo(scaled.Num(), scaled.Denom())
	high := new(big.Int).Add(low, big.NewInt(1))
	twice := new(big.Rat).Mul(scaled, big.NewRat(2, 1))
	order := twice.Cmp(new(big.Rat).SetInt(new(big.Int).Add(low, high)))
	if order > 0 || order == 0 && low.Bit(0) == 1 {
		low, high = high, low
	}
	var list []*big.Int
	for _, n := range []*big.Int{low, high} {
		if readBack(k, new(big.Rat).Mul(new(big.Rat).SetInt(n), step)) == bits {
			list = append(list, n)
		}
	}
	return list
}

// readBack rounds a value by Go's own fractions, which are quicker than a search.
func readBack(k side, v *big.Rat) uint64 {
	if k == wideSide {
		x, _ := v.Float64()
		return math.Float64bits(x)
	}
	x, _ := v.Float32()
	return uint64(math.Float32bits(x))
}

// printBy is P4.4 word for word.
func printBy(k side, bits uint64) string {
	v := k.value(bits)
	power := len(new(big.Int).Quo(v.Num(), v.Denom()).String()) - 1
	for v.Cmp(powerOf(10, power)) < 0 {
		power--
	}
	for count := 1; ; count++ {
		list := digitsFor(k, bits, count, power)
		if len(list) == 0 {
			continue
		}
		digits := list[0].String()
		power += len(digits) - count
		return layout(strings.TrimRight(digits, "0"), power)
	}
}

// layout writes digits and a power.
func layout(digits string, power int) string {
	if power < -5 || power > 15 {
		rest := digits[1:]
		if rest == "" {
			rest = "0"
		}
		return digits[:1] + "." + rest + "e" + strconv.Itoa(power)
	}
	for i := power; i < 0; i++ {
		digits = "0" + digits
	}
	ahead := max(power, 0) + 1
	for len(digits) < ahead+1 {
		digits += "0"
	}
	return digits[:ahead] + "." + digits[ahead:]
}

func checkPrint64(t *testing.T, bits uint64) {
	got := figure.Print64(float(bits))
	if want := printBy(wideSide, bits); got != want {
		t.Fatalf("Print64 of %016X: %s, want %s", bits, got, want)
	}
	if minus := figure.Print64(float(bits | minus64)); minus != "-"+got {
		t.Fatalf("Print64 of %016X: %s", bits|minus64, minus)
	}
}

func checkPrint32(t *testing.T, bits uint32) {
	got := figure.Print32(bits)
	if want := printBy(narrowSide, uint64(bits)); got != want {
		t.Fatalf("Print32(%08X): %s, want %s", bits, got, want)
	}
	if minus := figure.Print32(bits | minus32); minus != "-"+got {
		t.Fatalf("Print32(%08X): %s", bits|minus32, minus)
	}
}

// P4.4, P4.5: numbers of all sizes, held against the document's words.
func TestPrint(t *testing.T) {
	for _, bits := range wideSide.numbers(6, 2000) {
		if bits != 0 {
			checkPrint64(t, bits)
		}
	}
	for _, bits := range narrowSide.numbers(1, 6000) {
		if bits != 0 {
			checkPrint32(t, uint32(bits))
		}
	}
}

// P4.4: every power of two, below which the numbers lie closer than above.
func TestPrintOfPowersOfTwo(t *testing.T) {
	for power := -1074; power <= 1023; power++ {
		checkPrint64(t, math.Float64bits(math.Ldexp(1, power)))
	}
	for power := -149; power <= 127; power++ {
		checkPrint32(t, math.Float32bits(float32(math.Ldexp(1, power))))
	}
}

// P4.4: numbers that lie half way between two rows of digits.
func TestPrintOfTies(t *testing.T) {
	for whole := float64(1 << 42); whole < 1<<53; whole = whole*1.07 + 1 {
		for _, part := range []float64{0.25, 0.5, 0.75, 0.125, 0.375, 0.625, 0.875, 0.0625, 0.1875, 0.9375} {
			checkPrint64(t, math.Float64bits(math.Floor(whole)+part))
		}
	}
	for whole := float32(1 << 14); whole < 1<<24; whole = whole*1.07 + 1 {
		for _, part := range []float32{0.25, 0.5, 0.75, 0.125, 0.375, 0.625, 0.875, 0.0625, 0.1875, 0.9375} {
			checkPrint32(t, math.Float32bits(float32(int(whole))+part))
		}
	}
}

// P4.9: what is written is read back, bit for bit; a NaN as a NaN.
func TestPrintAndExactComeBack(t *testing.T) {
	for _, bits := range append(wideSide.numbers(3, 20000), 0, wideSide.endless) {
		for _, x := range []float64{float(bits), float(bits | minus64)} {
			for _, s := range []string{figure.Print64(x), figure.Exact(x)} {
				if back, at, e := figure.Read64(s); math.Float64bits(back) != math.Float64bits(x) || at != 0 || e != api.OK {
					t.Fatalf("Read64(%s) of %016X: %v, %d, %d", s, math.Float64bits(x), back, at, e)
				}
			}
		}
	}
	for _, bits := range append(narrowSide.numbers(1, 20000), 0, narrowSide.endless) {
		for _, b := range []uint32{uint32(bits), uint32(bits) | minus32} {
			if back, at, e := figure.Read32(figure.Print32(b)); back != b || at != 0 || e != api.OK {
				t.Fatalf("Read32(Print32(%08X)): %08X, %d, %d", b, back, at, e)
			}
		}
	}
	for _, x := range []float64{math.NaN(), float(0xFFF0000000000001)} {
		for _, s := range []string{figure.Print64(x), figure.Exact(x)} {
			if back, at, e := figure.Read64(s); back == back || at != 0 || e != api.OK {
				t.Fatalf("Read64(%s): %v, %d, %d", s, back, at, e)
			}
		}
	}
}

// P4.11: of fewer digits none are read back, neither those below the number nor those above it, by Read64 itself.
func TestPrintIsShortest(t *testing.T) {
	for _, bits := range wideSide.numbers(9, 3000) {
		x := float(bits)
		if bits == 0 {
			continue
		}
		digits, power := digitsOf(figure.Print64(x))
		if len(digits) == 1 {
			continue
		}
		fewer := digits[:len(digits)-1]
		low, _ := new(big.Int).SetString(fewer, 10)
		for off := int64(-1); off <= 2; off++ {
			n := new(big.Int).Add(low, big.NewInt(off))
			s := n.String() + "e" + strconv.Itoa(power-len(fewer)+1)
			if back, _, _ := figure.Read64(s); n.Sign() > 0 && back == x {
				t.Fatalf("%s is read back as %s", s, figure.Print64(x))
			}
		}
	}
}

// digitsOf gives the digits of what is written of a number above 0, without noughts at both ends, and the power of the first.
func digitsOf(s string) (string, int) {
	mant, mark, _ := strings.Cut(s, "e")
	power, _ := strconv.Atoi(mark)
	ahead, behind, _ := strings.Cut(mant, ".")
	digits := strings.TrimLeft(ahead+behind, "0")
	power += len(ahead) - 1 - (len(ahead+behind) - len(digits))
	return strings.TrimRight(digits, "0"), power
}

// P4.4: Go's own shortest digits are the same.
func TestPrintBesideGo(t *testing.T) {
	for _, bits := range scattered(60000) {
		x := float(bits % wideSide.endless)
		if x == 0 {
			continue
		}
		digits, power := digitsOf(figure.Print64(x))
		theirs, theirPower := digitsOf(strconv.FormatFloat(x, 'e', -1, 64))
		if digits != theirs || power != theirPower {
			t.Fatalf("Print64(%v): %s and %d", x, digits, power)
		}
	}
}

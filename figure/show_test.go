package figure_test

import (
	"math"
	"math/big"
	"strconv"
	"strings"
	"testing"

	"playpen/api"
	"playpen/figure"
)

// P4.6: the examples, and the edges of digits and powers.
func TestExactRows(t *testing.T) {
	cases := []struct {
		x    float64
		want string
	}{
		{math.NaN(), "nan"}, {float(0xFFF0000000000001), "nan"}, {math.Inf(1), "inf"}, {math.Inf(-1), "-inf"}, {0, "0x0p0"}, {math.Copysign(0, -1), "-0x0p0"},
		{1, "0x1p0"}, {-1, "-0x1p0"}, {-0.75, "-0x1.8p-1"}, {2, "0x1p1"}, {3, "0x1.8p1"}, {10, "0x1.4p3"}, {0.1, "0x1.999999999999ap-4"}, {1 + 0x1p-52, "0x1.0000000000001p0"}, {1 + 0x1p-8, "0x1.01p0"}, {1 + 0x1p-5, "0x1.08p0"}, {31.0 / 16, "0x1.fp0"}, {0x1.abcdefp10, "0x1.abcdefp10"},
		{5e-324, "0x1p-1074"}, {-1.5e-323, "-0x1.8p-1073"}, {0x1p-1022, "0x1p-1022"}, {0x0.fffffffffffffp-1022, "0x1.ffffffffffffep-1023"}, {math.MaxFloat64, "0x1.fffffffffffffp1023"},
	}
	for _, c := range cases {
		if got := figure.Exact(c.x); got != c.want {
			t.Errorf("Exact(%v): %s, want %s", c.x, got, c.want)
		}
	}
}

// P4.6: the form of what is written, and its value, which is the number's.
func TestExact(t *testing.T) {
	for _, bits := range wideSide.numbers(2, 10000) {
		x := float(bits)
		if x == 0 {
			continue
		}
		got := figure.Exact(x)
		rest, power, _ := strings.Cut(strings.TrimPrefix(got, "0x1"), "p")
		if !strings.HasPrefix(got, "0x1") || rest != "" && (rest[0] != '.' || len(rest) == 1 || strings.Trim(rest[1:], "0123456789abcdef") != "" || strings.HasSuffix(rest, "0")) {
			t.Fatalf("Exact(%v): %s", x, got)
		}
		if n, err := strconv.Atoi(power); err != nil || strconv.Itoa(n) != power {
			t.Fatalf("Exact(%v): %s", x, got)
		}
		if valueOf(got).Cmp(wideSide.value(bits)) != 0 {
			t.Fatalf("Exact(%v): %s", x, got)
		}
		if minus := figure.Exact(-x); minus != "-"+got {
			t.Fatalf("Exact(%v): %s", -x, minus)
		}
	}
}

// P4.7: the examples, ties, signs, edges and refusals.
func TestFixedRows(t *testing.T) {
	cases := []struct {
		x      float64
		digits int
		want   string
		e      api.Errno
	}{
		{0.125, 2, "0.12", api.OK}, {0.375, 2, "0.38", api.OK}, {0.5, 0, "0", api.OK}, {1.5, 0, "2", api.OK}, {2.5, 0, "2", api.OK}, {3.5, 0, "4", api.OK}, {-2.5, 0, "-2", api.OK}, {-0.5, 0, "-0", api.OK}, {0.25, 1, "0.2", api.OK}, {0.35, 1, "0.3", api.OK}, {0.45, 1, "0.5", api.OK},
		{-0.001, 2, "-0.00", api.OK}, {0.001, 2, "0.00", api.OK}, {0, 0, "0", api.OK}, {0, 3, "0.000", api.OK}, {math.Copysign(0, -1), 0, "-0", api.OK}, {math.Copysign(0, -1), 2, "-0.00", api.OK}, {5e-324, 20, "0.00000000000000000000", api.OK}, {-5e-324, 1, "-0.0", api.OK},
		{1, 0, "1", api.OK}, {1, 3, "1.000", api.OK}, {9.99, 1, "10.0", api.OK}, {99.999, 2, "100.00", api.OK}, {0.999, 0, "1", api.OK}, {0.0625, 3, "0.062", api.OK}, {0.05, 1, "0.1", api.OK}, {0.05, 2, "0.05", api.OK}, {12.5, 1, "12.5", api.OK}, {-12.34, 1, "-12.3", api.OK},
		{0.1, 20, "0.10000000000000000555", api.OK}, {1e20, 1, "100000000000000000000.0", api.OK}, {1e23, 0, "99999999999999991611392", api.OK}, {math.MaxFloat64, 0, new(big.Int).Lsh(big.NewInt(1<<53-1), 971).String(), api.OK}, {-math.MaxFloat64, 2, "-" + new(big.Int).Lsh(big.NewInt(1<<53-1), 971).String() + ".00", api.OK},
		{math.NaN(), 0, "nan", api.OK}, {math.Inf(1), 20, "inf", api.OK}, {math.Inf(-1), 3, "-inf", api.OK},
		{1, 21, "", api.ErrDigits}, {1, -1, "", api.ErrDigits}, {1, math.MaxInt, "", api.ErrDigits}, {1, math.MinInt, "", api.ErrDigits}, {math.NaN(), 21, "", api.ErrDigits}, {math.Inf(1), -1, "", api.ErrDigits},
	}
	for _, c := range cases {
		if got, e := figure.Fixed(c.x, c.digits); got != c.want || e != c.e {
			t.Errorf("Fixed(%v, %d): %s, %d, want %s, %d", c.x, c.digits, got, e, c.want, c.e)
		}
	}
}

// fixedBy is P4.7 word for word, of a finite number.
func fixedBy(bits uint64, digits int) string {
	v := wideSide.value(bits &^ minus64)
	v.Mul(v, powerOf(10, digits))
	low := new(big.Int).Quo(v.Num(), v.Denom())
	rest := new(big.Rat).Sub(v, new(big.Rat).SetInt(low))
	if order := rest.Cmp(big.NewRat(1, 2)); order > 0 || order == 0 && low.Bit(0) == 1 {
		low.Add(low, big.NewInt(1))
	}
	text := low.String()
	for len(text) <= digits {
		text = "0" + text
	}
	if digits > 0 {
		text = text[:len(text)-digits] + "." + text[len(text)-digits:]
	}
	if bits&minus64 != 0 {
		text = "-" + text
	}
	return text
}

func checkFixed(t *testing.T, bits uint64, digits int) {
	if got, e := figure.Fixed(float(bits), digits); got != fixedBy(bits, digits) || e != api.OK {
		t.Fatalf("Fixed(%v, %d): %s, %d, want %s", float(bits), digits, got, e, fixedBy(bits, digits))
	}
}

// P4.7: numbers of all sizes, at all numbers of digits.
func TestFixed(t *testing.T) {
	for i, bits := range append(wideSide.numbers(4, 1000), 0) {
		checkFixed(t, bits, i%21)
		checkFixed(t, bits|minus64, (i+7)%21)
	}
	for n := range uint64(3000) {
		for digits := range 21 {
			checkFixed(t, math.Float64bits(float64(n)/64), digits)
		}
	}
	for i, bits := range scattered(5000) {
		checkFixed(t, math.Float64bits(math.Ldexp(float64(bits>>11), -60+i%20)), i%21)
	}
}

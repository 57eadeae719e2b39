package figure_test

import (
	"cmp"
	"math"
	"math/big"
	"slices"
	"strconv"
	"strings"
	"testing"

	"playpen/api"
	"playpen/figure"
)

// P4.3: the examples, each form, its edges and faults.
func TestRead64Rows(t *testing.T) {
	inf, least := math.Inf(1), 5e-324
	cases := []struct {
		s  string
		x  float64
		at int
		e  api.Errno
	}{
		{"inf", inf, 0, api.OK}, {"-inf", -inf, 0, api.OK},
		{"0", 0, 0, api.OK}, {"-0", math.Copysign(0, -1), 0, api.OK}, {"1", 1, 0, api.OK}, {"-1", -1, 0, api.OK}, {"007", 7, 0, api.OK}, {"01.50", 1.5, 0, api.OK}, {"0.1", 0.1, 0, api.OK}, {"00.1", 0.1, 0, api.OK},
		{"1e3", 1000, 0, api.OK}, {"1E3", 1000, 0, api.OK}, {"1e+3", 1000, 0, api.OK}, {"1e-3", 0.001, 0, api.OK}, {"1.25E+02", 125, 0, api.OK}, {"0e0", 0, 0, api.OK}, {"-0.0e-5", math.Copysign(0, -1), 0, api.OK}, {"1e0003", 1000, 0, api.OK},
		{"0x1p0", 1, 0, api.OK}, {"0xAp0", 10, 0, api.OK}, {"0xa.8p1", 21, 0, api.OK}, {"0x1.8p3", 12, 0, api.OK}, {"-0x1.8p-1", -0.75, 0, api.OK}, {"0x00fp+4", 240, 0, api.OK}, {"-0x0p0", math.Copysign(0, -1), 0, api.OK}, {"0x0.0001p16", 1, 0, api.OK}, {"0xep0", 14, 0, api.OK}, {"0x1e5p0", 485, 0, api.OK}, {"0xdep0", 222, 0, api.OK},
		{"9007199254740993", 1 << 53, 0, api.OK}, {"9007199254740993.00001", 1<<53 + 2, 0, api.OK}, {"9007199254740995", 1<<53 + 4, 0, api.OK},
		{"1e400", 0, 0, api.ErrLarge}, {"-1e400", 0, 0, api.ErrLarge}, {"1e99999999999999999999", 0, 0, api.ErrLarge}, {"0x1p99999999999999999999", 0, 0, api.ErrLarge}, {"0e99999999999999999999", 0, 0, api.OK}, {"-0x0p99999999999999999999", math.Copysign(0, -1), 0, api.OK},
		{"1.7976931348623157e308", math.MaxFloat64, 0, api.OK}, {"1.7976931348623158e308", math.MaxFloat64, 0, api.OK}, {"1.7976931348623159e308", 0, 0, api.ErrLarge}, {"0x1p1024", 0, 0, api.ErrLarge}, {"0x1.fffffffffffffp1023", math.MaxFloat64, 0, api.OK},
		{"0x1.fffffffffffff8p1023", 0, 0, api.ErrLarge}, {"0x1.fffffffffffff7fffp1023", math.MaxFloat64, 0, api.OK}, {"-0x1.fffffffffffff7fffp1023", -math.MaxFloat64, 0, api.OK},
		{"1e-400", 0, 0, api.OK}, {"-1e-400", math.Copysign(0, -1), 0, api.OK}, {"1e-99999999999999999999", 0, 0, api.OK}, {"-0xfp-99999999999999999999", math.Copysign(0, -1), 0, api.OK},
		{"0x1p-1074", least, 0, api.OK}, {"0x1p-1075", 0, 0, api.OK}, {"0x1.00000001p-1075", least, 0, api.OK}, {"0x1.8p-1075", least, 0, api.OK}, {"0x3p-1075", 2 * least, 0, api.OK}, {"0x1.8p-1074", 2 * least, 0, api.OK}, {"0x5p-1075", 2 * least, 0, api.OK}, {"4.9e-324", least, 0, api.OK}, {"2.5e-324", least, 0, api.OK}, {"2.4e-324", 0, 0, api.OK},
		{"2.2250738585072011e-308", 0x0.fffffffffffffp-1022, 0, api.OK}, {"2.2250738585072012e-308", 0x1p-1022, 0, api.OK}, {"0x0.fffffffffffff8p-1022", 0x1p-1022, 0, api.OK},
		{"", 0, 0, api.ErrFigure}, {"-", 0, 1, api.ErrFigure}, {"+1", 0, 0, api.ErrFigure}, {"--1", 0, 1, api.ErrFigure}, {"1.", 0, 2, api.ErrFigure}, {".5", 0, 0, api.ErrFigure}, {"-.5", 0, 1, api.ErrFigure}, {".", 0, 0, api.ErrFigure}, {"1..5", 0, 2, api.ErrFigure}, {"1.2.3", 0, 3, api.ErrFigure},
		{"1e", 0, 2, api.ErrFigure}, {"1e+", 0, 3, api.ErrFigure}, {"1e+-3", 0, 3, api.ErrFigure}, {"1ee3", 0, 2, api.ErrFigure}, {"1e3.5", 0, 3, api.ErrFigure}, {"1e3e", 0, 3, api.ErrFigure}, {"e3", 0, 0, api.ErrFigure}, {"1.e3", 0, 2, api.ErrFigure}, {"1p3", 0, 1, api.ErrFigure}, {"1e5-", 0, 3, api.ErrFigure},
		{"0x1.8", 0, 5, api.ErrFigure}, {"0x1", 0, 3, api.ErrFigure}, {"0x", 0, 2, api.ErrFigure}, {"0xp1", 0, 2, api.ErrFigure}, {"0x.8p0", 0, 2, api.ErrFigure}, {"0x1.p0", 0, 4, api.ErrFigure}, {"0x1p", 0, 4, api.ErrFigure}, {"0x1p+", 0, 5, api.ErrFigure}, {"0x1pa", 0, 4, api.ErrFigure}, {"0x1P0", 0, 3, api.ErrFigure}, {"0X1p0", 0, 1, api.ErrFigure}, {"00x1p0", 0, 2, api.ErrFigure}, {"1x1p0", 0, 1, api.ErrFigure}, {"0x1e+5", 0, 4, api.ErrFigure}, {"0x1.1.1p0", 0, 5, api.ErrFigure}, {"0b1", 0, 1, api.ErrFigure}, {"0x1g", 0, 3, api.ErrFigure}, {"-0x", 0, 3, api.ErrFigure},
		{"n", 0, 1, api.ErrFigure}, {"na", 0, 2, api.ErrFigure}, {"nan0", 0, 3, api.ErrFigure}, {"-nan", 0, 1, api.ErrFigure}, {"NaN", 0, 0, api.ErrFigure}, {"nin", 0, 1, api.ErrFigure}, {"i", 0, 1, api.ErrFigure}, {"in", 0, 2, api.ErrFigure}, {"inff", 0, 3, api.ErrFigure}, {"infinity", 0, 3, api.ErrFigure}, {"Inf", 0, 0, api.ErrFigure}, {"+inf", 0, 0, api.ErrFigure}, {"-in", 0, 3, api.ErrFigure}, {"inan", 0, 2, api.ErrFigure}, {"1inf", 0, 1, api.ErrFigure},
		{" 1", 0, 0, api.ErrFigure}, {"1 ", 0, 1, api.ErrFigure}, {"1_0", 0, 1, api.ErrFigure}, {"1,5", 0, 1, api.ErrFigure}, {"\xff", 0, 0, api.ErrFigure}, {"1\x00", 0, 1, api.ErrFigure}, {"1f", 0, 1, api.ErrFigure}, {"1e400z", 0, 5, api.ErrFigure}, {"1/", 0, 1, api.ErrFigure}, {"1:", 0, 1, api.ErrFigure},
		{strings.Repeat("0", 63) + "7", 7, 0, api.OK}, {strings.Repeat("0", 64) + "7", 0, 64, api.ErrDigits}, {strings.Repeat("z", 65), 0, 64, api.ErrDigits}, {strings.Repeat("9", 63) + "e", 0, 64, api.ErrFigure}, {strings.Repeat("9", 64), 1e64, 0, api.OK}, {"0." + strings.Repeat("0", 61) + "1", 1e-62, 0, api.OK}, {"nan" + strings.Repeat("n", 62), 0, 64, api.ErrDigits},
		{"1" + strings.Repeat("0", 58) + "e-309", 1e-251, 0, api.OK}, {"0." + strings.Repeat("0", 55) + "1e364", 1e308, 0, api.OK}, {"0x0." + strings.Repeat("0", 52) + "1p1234", 0x1p1022, 0, api.OK},
	}
	for _, c := range cases {
		if x, at, e := figure.Read64(c.s); math.Float64bits(x) != math.Float64bits(c.x) || at != c.at || e != c.e {
			t.Errorf("Read64(%q): %v, %d, %d, want %v, %d, %d", c.s, x, at, e, c.x, c.at, c.e)
		}
	}
	if x, at, e := figure.Read64("nan"); x == x || at != 0 || e != api.OK {
		t.Errorf("Read64(nan): %v, %d, %d", x, at, e)
	}
}

// P4.5: what is read is rounded once, to a binary32.
func TestRead32Rows(t *testing.T) {
	cases := []struct {
		s  string
		x  uint32
		at int
		e  api.Errno
	}{
		{"nan", api.NaN, 0, api.OK}, {"inf", 0x7F800000, 0, api.OK}, {"-inf", 0xFF800000, 0, api.OK}, {"0", 0, 0, api.OK}, {"-0", minus32, 0, api.OK}, {"1", 0x3F800000, 0, api.OK}, {"-1.5", 0xBFC00000, 0, api.OK}, {"0.1", 0x3DCCCCCD, 0, api.OK}, {"1e10", 0x501502F9, 0, api.OK},
		{"16777217", 0x4B800000, 0, api.OK}, {"16777217.0000001", 0x4B800001, 0, api.OK}, {"16777219", 0x4B800002, 0, api.OK},
		{"1.00000017881393432617187499", 0x3F800001, 0, api.OK}, {"1.000000178813934326171875", 0x3F800002, 0, api.OK}, {"1.000000059604644775390625", 0x3F800000, 0, api.OK}, {"1.00000005960464477539062501", 0x3F800001, 0, api.OK}, {"0x1.0000010000000001p0", 0x3F800001, 0, api.OK}, {"0x1.000001p0", 0x3F800000, 0, api.OK},
		{"3.4028234663852886e38", 0x7F7FFFFF, 0, api.OK}, {"3.4028235677973367e38", 0, 0, api.ErrLarge}, {"3.4028235677973366e38", 0x7F7FFFFF, 0, api.OK}, {"0x1.ffffffp127", 0, 0, api.ErrLarge}, {"-0x1.ffffffp127", 0, 0, api.ErrLarge}, {"0x1.fffffeffffffffffp127", 0x7F7FFFFF, 0, api.OK}, {"0x1p128", 0, 0, api.ErrLarge}, {"3.5e38", 0, 0, api.ErrLarge}, {"1e308", 0, 0, api.ErrLarge},
		{"0x1p-149", 1, 0, api.OK}, {"0x1p-150", 0, 0, api.OK}, {"-0x1p-150", minus32, 0, api.OK}, {"0x1.0000000000000001p-150", 1, 0, api.OK}, {"0x3p-150", 2, 0, api.OK}, {"1e-46", 0, 0, api.OK}, {"-1e-46", minus32, 0, api.OK}, {"1e-45", 1, 0, api.OK}, {"0x0.ffffffp-126", 0x00800000, 0, api.OK},
		{"", 0, 0, api.ErrFigure}, {"1.", 0, 2, api.ErrFigure}, {"-nan", 0, 1, api.ErrFigure}, {"0x1.8", 0, 5, api.ErrFigure}, {"1e39z", 0, 4, api.ErrFigure}, {strings.Repeat("1", 65), 0, 64, api.ErrDigits},
	}
	for _, c := range cases {
		if x, at, e := figure.Read32(c.s); x != c.x || at != c.at || e != c.e {
			t.Errorf("Read32(%q): %08X, %d, %d, want %08X, %d, %d", c.s, x, at, e, c.x, c.at, c.e)
		}
	}
}

// faultBy gives the place and the error of a text that has none of the forms, and the number's bits that a text without digits stands for; false, if it is one of the last two forms.
func faultBy(s string, k side) (uint64, int, api.Errno, bool) {
	sign := uint64(k.endless>>k.fraction+1) << k.fraction
	switch {
	case len(s) > 64:
		return 0, 64, api.ErrDigits, true
	case !numberForm.MatchString(s):
		return 0, faultAt(numberForm, s), api.ErrFigure, true
	case s == "inf":
		return k.endless, 0, api.OK, true
	case s == "-inf":
		return k.endless | sign, 0, api.OK, true
	case s == "nan":
		return k.endless + 1<<(k.fraction-1), 0, api.OK, true
	}
	return 0, 0, api.OK, false
}

// readBy is P4.3 word for word.
func readBy(s string, k side) (uint64, int, api.Errno) {
	bits, at, e, told := faultBy(s, k)
	if told {
		return bits, at, e
	}
	bits, ok := k.nearest(valueOf(s))
	if !ok {
		return 0, 0, api.ErrLarge
	}
	if s[0] == '-' {
		bits |= uint64(k.endless>>k.fraction+1) << k.fraction
	}
	return bits, 0, api.OK
}

func checkRead(t *testing.T, s string) {
	x, at, e := figure.Read64(s)
	bits, wantAt, wantE := readBy(s, wideSide)
	if x != x {
		x = float(wideSide.endless + 1<<51)
	}
	if math.Float64bits(x) != bits || at != wantAt || e != wantE {
		t.Fatalf("Read64(%q): %v, %d, %d, want %v, %d, %d", s, x, at, e, float(bits), wantAt, wantE)
	}
	y, at, e := figure.Read32(s)
	bits, wantAt, wantE = readBy(s, narrowSide)
	if uint64(y) != bits || at != wantAt || e != wantE {
		t.Fatalf("Read32(%q): %08X, %d, %d, want %08X, %d, %d", s, y, at, e, bits, wantAt, wantE)
	}
}

// P4.3, P4.5: the places of faults and the values of all short texts.
func TestReadOfShortTexts(t *testing.T) {
	for _, s := range texts("019.e-+xpa", 4) {
		checkRead(t, s)
	}
	for _, s := range texts("01nainfE-", 3) {
		checkRead(t, s)
	}
	for _, head := range []string{"0x", "-0x", "0x1.", "12", "-1.5", "1e", "0x1p", "1.5e-", "0xa.8p+", "-in"} {
		for _, s := range texts("09.eE+-xpaFfn", 2) {
			checkRead(t, head+s)
		}
	}
}

// P4.3: every byte behind every state.
func TestReadOfEveryByte(t *testing.T) {
	heads := []string{"", "-", "0", "-0", "1", "0.", "0.1", "1e", "1e+", "1e1", "0x", "0x1", "0x1.", "0x1.1", "0x1p", "0x1p-", "0x1p1", "n", "na", "nan", "i", "in", "inf", "-i"}
	for _, head := range heads {
		for c := range 256 {
			checkRead(t, head+string([]byte{byte(c)}))
		}
	}
}

// P4.3, P4.5: each middle between two numbers is read as the even one, and what lies hard by it as the nearer one.
func TestReadOfMiddles(t *testing.T) {
	for i, k := range []side{wideSide, narrowSide} {
		little := powerOf(2, k.least-40)
		for _, bits := range append(k.edges(29-20*i), 0, 1, 2, 3) {
			middle := k.middle(bits)
			checkRead(t, hexFigure(k.value(bits)))
			checkRead(t, hexFigure(middle))
			for _, off := range []*big.Rat{little, new(big.Rat).Mul(middle, powerOf(2, -150))} {
				for _, s := range []string{hexFigure(new(big.Rat).Add(middle, off)), hexFigure(new(big.Rat).Sub(middle, off))} {
					if len(s) <= 64 {
						checkRead(t, s)
						checkRead(t, "-"+s)
					}
				}
			}
		}
	}
}

// decimals gives figures of many digits and powers.
func decimals(count int) []string {
	var list []string
	for i, x := range scattered(count) {
		ahead := strconv.FormatUint(x>>(uint(i)%64), 10)
		behind := strconv.FormatUint(x*uint64(i+3), 10)
		power := strconv.Itoa(int(x%700) - 350)
		list = append(list, ahead, ahead+"."+behind, ahead+"e"+power, ahead+"."+behind+"e"+power, "0.000"+behind+"E"+power)
	}
	return list
}

// P4.3, P4.5: decimal figures from all over, held against the document's words, and against Go's own reading where that is of the same form.
func TestReadOfDecimals(t *testing.T) {
	for i, s := range decimals(4000) {
		x, _, e := figure.Read64(s)
		want, err := strconv.ParseFloat(s, 64)
		if err == nil && (x != want || e != api.OK) || err != nil && e != api.ErrLarge {
			t.Fatalf("Read64(%q): %v, %d, want %v", s, x, e, want)
		}
		y, _, e := figure.Read32(s)
		want, err = strconv.ParseFloat(s, 32)
		if err == nil && (y != math.Float32bits(float32(want)) || e != api.OK) || err != nil && e != api.ErrLarge {
			t.Fatalf("Read32(%q): %08X, %d, want %v", s, y, e, want)
		}
		if i%40 == 0 {
			checkRead(t, s)
		}
	}
}

// P4.3: decimal figures that lie as near to a middle as 64 bytes can tell.
func TestReadOfDecimalMiddles(t *testing.T) {
	for _, k := range []side{wideSide, narrowSide} {
		for _, bits := range k.edges(13) {
			digits := k.middle(bits).FloatString(60)
			digits = digits[:min(len(digits), 62)]
			checkRead(t, strings.TrimSuffix(digits, "."))
			checkRead(t, digits+"1")
		}
	}
}

// P4.10: reading keeps the order of values.
func TestReadKeepsOrder(t *testing.T) {
	type row struct {
		s string
		v *big.Rat
	}
	var rows []row
	add := func(s string) {
		if len(s) <= 64 {
			rows = append(rows, row{s, valueOf(s)})
		}
	}
	for _, s := range decimals(300) {
		add(s)
	}
	for _, bits := range wideSide.edges(31) {
		middle := wideSide.middle(bits)
		add(hexFigure(middle))
		add(hexFigure(new(big.Rat).Mul(middle, new(big.Rat).Sub(big.NewRat(1, 1), powerOf(2, -100)))))
		add(hexFigure(new(big.Rat).Mul(middle, new(big.Rat).Add(big.NewRat(1, 1), powerOf(2, -100)))))
	}
	slices.SortFunc(rows, func(a, b row) int { return a.v.Cmp(b.v) })
	last64, last32 := 0.0, uint32(0)
	for _, r := range rows {
		x, _, e := figure.Read64(r.s)
		if e == api.ErrLarge {
			x = math.Inf(1)
		}
		y, _, e := figure.Read32(r.s)
		if e == api.ErrLarge {
			y = 0x7F800000
		}
		if cmp.Less(x, last64) || y < last32 {
			t.Fatalf("%q: %v, %08X, and a lesser value: %v, %08X", r.s, x, y, last64, last32)
		}
		last64, last32 = x, y
	}
}

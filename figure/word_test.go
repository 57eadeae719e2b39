package figure_test

import (
	"math/big"
	"strconv"
	"strings"
	"testing"

	"playpen/api"
	"playpen/figure"
)

// P4.1: the examples, each form, its edges and faults.
func TestWordRows(t *testing.T) {
	cases := []struct {
		s  string
		x  uint32
		at int
		e  api.Errno
	}{
		{"0", 0, 0, api.OK}, {"-0", 0, 0, api.OK}, {"007", 7, 0, api.OK}, {"-007", 1<<32 - 7, 0, api.OK}, {"00", 0, 0, api.OK},
		{"-1", 1<<32 - 1, 0, api.OK}, {"4294967295", 1<<32 - 1, 0, api.OK}, {"2147483648", 1 << 31, 0, api.OK}, {"-2147483648", 1 << 31, 0, api.OK}, {"-2147483647", 1<<31 + 1, 0, api.OK},
		{"0xffffffff", 1<<32 - 1, 0, api.OK}, {"0xABCDEFab", 0xABCDEFAB, 0, api.OK}, {"0x0", 0, 0, api.OK}, {"0x00000000000ff", 255, 0, api.OK},
		{"0b0", 0, 0, api.OK}, {"0b101", 5, 0, api.OK}, {"0b11111111111111111111111111111111", 1<<32 - 1, 0, api.OK}, {"0b0011111111111111111111111111111111", 1<<32 - 1, 0, api.OK},
		{"4294967296", 0, 9, api.ErrLarge}, {"-2147483649", 0, 10, api.ErrLarge}, {"-4294967295", 0, 10, api.ErrLarge}, {"0x100000000", 0, 10, api.ErrLarge}, {"0b100000000000000000000000000000000", 0, 34, api.ErrLarge},
		{"5000000000", 0, 9, api.ErrLarge}, {"99999999999z", 0, 9, api.ErrLarge}, {"0xfffffffffz", 0, 10, api.ErrLarge}, {"00004294967296", 0, 13, api.ErrLarge}, {"-9999999999", 0, 10, api.ErrLarge},
		{"429496729z5", 0, 9, api.ErrFigure}, {"1z99999999999", 0, 1, api.ErrFigure},
		{"", 0, 0, api.ErrFigure}, {"-", 0, 1, api.ErrFigure}, {"0x", 0, 2, api.ErrFigure}, {"0b", 0, 2, api.ErrFigure}, {"0b102", 0, 4, api.ErrFigure}, {"0b2", 0, 2, api.ErrFigure},
		{"12a", 0, 2, api.ErrFigure}, {"0xg", 0, 2, api.ErrFigure}, {"0x1G", 0, 3, api.ErrFigure}, {"0X1", 0, 1, api.ErrFigure}, {"0B1", 0, 1, api.ErrFigure}, {"-0x1", 0, 2, api.ErrFigure}, {"-0b1", 0, 2, api.ErrFigure},
		{"00x1", 0, 2, api.ErrFigure}, {"1x1", 0, 1, api.ErrFigure}, {"1b1", 0, 1, api.ErrFigure}, {"+1", 0, 0, api.ErrFigure}, {"--1", 0, 1, api.ErrFigure}, {"1-", 0, 1, api.ErrFigure}, {" 1", 0, 0, api.ErrFigure}, {"1 ", 0, 1, api.ErrFigure},
		{"1_000", 0, 1, api.ErrFigure}, {"a", 0, 0, api.ErrFigure}, {"\xff", 0, 0, api.ErrFigure}, {"1\x00", 0, 1, api.ErrFigure}, {"1.5", 0, 1, api.ErrFigure}, {"1/", 0, 1, api.ErrFigure}, {"1:", 0, 1, api.ErrFigure},
		{"0x@", 0, 2, api.ErrFigure}, {"0x`", 0, 2, api.ErrFigure}, {"0x/", 0, 2, api.ErrFigure}, {"0x:", 0, 2, api.ErrFigure}, {"٣", 0, 0, api.ErrFigure},
		{strings.Repeat("0", 63) + "7", 7, 0, api.OK}, {strings.Repeat("0", 64) + "7", 0, 64, api.ErrDigits}, {strings.Repeat("z", 65), 0, 64, api.ErrDigits}, {strings.Repeat("9", 1000), 0, 64, api.ErrDigits}, {strings.Repeat("0", 63) + "z", 0, 63, api.ErrFigure},
	}
	for _, c := range cases {
		if x, at, e := figure.Word(c.s); x != c.x || at != c.at || e != c.e {
			t.Errorf("Word(%q): %d, %d, %d, want %d, %d, %d", c.s, x, at, e, c.x, c.at, c.e)
		}
	}
}

// wordBy is P4.1 word for word.
func wordBy(s string) (uint32, int, api.Errno) {
	if len(s) > 64 {
		return 0, 64, api.ErrDigits
	}
	large := largeAt(s)
	if !wordForm.MatchString(s) && (large < 0 || faultAt(wordForm, s) < large) {
		return 0, faultAt(wordForm, s), api.ErrFigure
	}
	if large >= 0 {
		return 0, large, api.ErrLarge
	}
	return uint32(wordValue(s).Int64()), 0, api.OK
}

// wordValue gives the value of a text that has one of Word's forms.
func wordValue(s string) *big.Int {
	v, base := new(big.Int), 10
	if strings.HasPrefix(s, "0x") {
		s, base = s[2:], 16
	} else if strings.HasPrefix(s, "0b") {
		s, base = s[2:], 2
	}
	v.SetString(s, base)
	return v
}

// largeAt gives the place of the first digit with which the value leaves its bounds; -1, if it does not.
func largeAt(s string) int {
	for at := range len(s) {
		v := s[:at+1]
		if !wordForm.MatchString(v) {
			continue
		}
		if value := wordValue(v); value.Cmp(big.NewInt(-1<<31)) < 0 || value.Cmp(big.NewInt(1<<32-1)) > 0 {
			return at
		}
	}
	return -1
}

func checkWord(t *testing.T, s string) {
	x, at, e := figure.Word(s)
	if wantX, wantAt, wantE := wordBy(s); x != wantX || at != wantAt || e != wantE {
		t.Fatalf("Word(%q): %d, %d, %d, want %d, %d, %d", s, x, at, e, wantX, wantAt, wantE)
	}
}

// P4.1: all short texts, and those that begin with much or end in much.
func TestWordOfShortTexts(t *testing.T) {
	for _, s := range texts("019-xbaF.", 4) {
		checkWord(t, s)
	}
	for _, s := range texts("0289-xbF", 2) {
		for _, much := range []string{"429496729", "214748364", "-214748364", "0xfffffff", "0b1111111111111111111111111111111", "00000429496729"} {
			checkWord(t, much+s)
			checkWord(t, s+much)
			checkWord(t, much+s+much)
		}
	}
}

// P4.1: every byte in the place of a digit.
func TestWordOfEveryByte(t *testing.T) {
	for c := range 256 {
		for _, head := range []string{"", "0", "-", "12", "0x", "0x1", "0b", "0b1"} {
			checkWord(t, head+string([]byte{byte(c)}))
		}
	}
}

// someWords gives words at the edges of their bits, and others.
func someWords() []uint32 {
	list := []uint32{0, 1<<32 - 1, 48879, 10, 99, 100, 4294967294}
	for bit := range 32 {
		list = append(list, 1<<bit-1, 1<<bit, 1<<bit+1, -(1 << bit))
	}
	for _, x := range scattered(2000) {
		list = append(list, uint32(x), uint32(x)>>(x>>59))
	}
	return list
}

// P4.2, P4.8: words written and read back.
func TestSignedAndHex(t *testing.T) {
	if got := figure.Signed(4294967294); got != "-2" {
		t.Errorf("Signed(4294967294): %s", got)
	}
	if got := figure.Hex(48879); got != "0x0000beef" {
		t.Errorf("Hex(48879): %s", got)
	}
	for _, x := range someWords() {
		signed, hex := figure.Signed(x), figure.Hex(x)
		if want := strconv.FormatInt(int64(int32(x)), 10); signed != want {
			t.Fatalf("Signed(%d): %s, want %s", x, signed, want)
		}
		if want := "0x" + strconv.FormatUint(1<<32+uint64(x), 16)[1:]; hex != want {
			t.Fatalf("Hex(%d): %s, want %s", x, hex, want)
		}
		for _, s := range []string{signed, hex} {
			if back, at, e := figure.Word(s); back != x || at != 0 || e != api.OK {
				t.Fatalf("Word(%s) of %d: %d, %d, %d", s, x, back, at, e)
			}
		}
	}
}

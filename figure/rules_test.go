package figure_test

import (
	"math"
	"testing"

	"playpen/figure"
)

// R1: no call panics, at whatever it is given, and each does what its promise says.
func FuzzEveryCall(f *testing.F) {
	f.Add("0x1.8p-1075", uint64(0x3FB999999999999A), 3)
	f.Add("-1.00000017881393432617187499e-7", uint64(1), 20)
	f.Add("4294967296", uint64(1<<63), -1)
	f.Add("0b102", uint64(0x7FF0000000000001), 21)
	f.Add("nan", uint64(0x7F7FFFFF7F7FFFFF), 0)
	f.Add("-inf", uint64(0xFFFFFFFFFFFFFFFF), 0)
	f.Fuzz(func(t *testing.T, s string, bits uint64, digits int) {
		checkWord(t, s)
		figure.Read64(s)
		figure.Read32(s)
		if !numberForm.MatchString(s) || len(s) < 12 { // a long row of digits behind the e has no exact value that could be held
			checkRead(t, s)
		}
		x, word := float(bits), uint32(bits)
		figure.Print64(x)
		figure.Print32(word)
		figure.Exact(x)
		figure.Fixed(x, digits)
		if size := bits &^ minus64; size < wideSide.endless {
			checkFixed(t, bits, int(uint(digits)%21))
			if size != 0 {
				checkPrint64(t, size)
			}
		}
		if size := word &^ minus32; size != 0 && uint64(size) < narrowSide.endless {
			checkPrint32(t, size)
		}
		if back, _, _ := figure.Read64(figure.Exact(x)); x == x && math.Float64bits(back) != bits {
			t.Fatalf("Read64(Exact) of %016X: %v", bits, back)
		}
		for _, text := range []string{figure.Signed(word), figure.Hex(word)} {
			if back, _, _ := figure.Word(text); back != word {
				t.Fatalf("Word(%s) of %d: %d", text, word, back)
			}
		}
	})
}

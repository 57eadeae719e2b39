package plane_test

import (
	"fmt"
	"math"
	"math/big"
	"testing"

	"playpen/api"
	"playpen/plane"
)

const minusWord = 1 << 31

// noneWord tells whether a word is that of a NaN.
func noneWord(a uint32) bool { return a&^minusWord > 0x7F800000 }

// oneNaN gives the one NaN's word of no number, and all else as it is.
func oneNaN(a uint32) uint32 {
	if noneWord(a) {
		return api.NaN
	}
	return a
}

// nearBy is P5.9 word for word, of one part: the word of the nearest binary32.
func nearBy(x float64) uint32 {
	sign := uint32(math.Float64bits(x) >> 63 << 31)
	switch {
	case isNone(x):
		return api.NaN
	case isEndless(x):
		return sign | 0x7F800000
	case isNought(x):
		return sign
	}
	near, _ := new(big.Rat).Abs(exact(x)).Float32()
	return sign | math.Float32bits(near)
}

// wordsOf gives the words of a point's parts, by Go's own means.
func wordsOf(a complex64) [2]uint32 {
	return [2]uint32{oneNaN(math.Float32bits(real(a))), oneNaN(math.Float32bits(imag(a)))}
}

// words gives words at the edges of the exponents, and some from all over.
func words() []uint32 {
	list := []uint32{0, minusWord, api.NaN, 0x7F800001, 0xFF800001, 0xFFC12345, 0x7FFFFFFF, 0xFFFFFFFF, 0x7FBFFFFF, 0xFFC00000}
	for exponent := range uint32(256) {
		for _, fraction := range []uint32{0, 1, 1 << 22, 1<<23 - 1} {
			list = append(list, exponent<<23+fraction, minusWord+exponent<<23+fraction)
		}
	}
	for _, bits := range scattered(2000) {
		list = append(list, uint32(bits))
	}
	return list
}

// P5.9: what is too large, too small, or half way.
func TestNearRows(t *testing.T) {
	rows := map[float64]uint32{
		1e39: 0x7F800000, -1e39: 0xFF800000, 1: 0x3F800000, 0.1: 0x3DCCCCCD, 16777217: 0x4B800000, 16777219: 0x4B800002,
		0x1.fffffefffffffp127: 0x7F7FFFFF, 0x1.ffffffp127: 0x7F800000, -0x1.ffffffp127: 0xFF800000,
		0x1p-149: 1, 0x1p-150: 0, -0x1p-150: minusWord, 0x1.0000000000001p-150: 1, 0x1.8p-149: 2, 0x1.4p-148: 2, 1e-300: 0, -1e-300: minusWord,
		float(1): 0, float(minusBit + 1): minusWord, math.MaxFloat64: 0x7F800000, inf: 0x7F800000, -inf: 0xFF800000,
	}
	for x, want := range rows {
		if got := wordsOf(plane.Near(complex(x, 2))); got != [2]uint32{want, 0x40000000} {
			t.Errorf("Near(%v, 2): %08X, want %08X", x, got, want)
		}
		if got := wordsOf(plane.Near(complex(3, x))); got != [2]uint32{0x40400000, want} {
			t.Errorf("Near(3, %v): %08X, want %08X", x, got, want)
		}
	}
}

// P5.9: parts of all kinds, the half ways between two binary32 too.
func TestNear(t *testing.T) {
	var parts []float64
	for i, a := range words() {
		bits := math.Float64bits(float64(math.Float32frombits(a)))
		parts = append(parts, float(bits), float(bits+1), float(bits-1), float(bits+1<<28), float(bits+1<<28-1), float(bits+1<<28+1), float(uint64(a)<<32+uint64(i)))
	}
	parts = append(parts, edgeParts()...)
	for i, x := range parts {
		y := parts[(i*11+5)%len(parts)]
		if got, want := wordsOf(plane.Near(complex(x, y))), [2]uint32{nearBy(x), nearBy(y)}; got != want {
			t.Fatalf("Near(%v, %v): %08X, want %08X", x, y, got, want)
		}
	}
}

// farBy is P5.9 of one part: the number of a word, as its fraction and its exponent say.
func farBy(a uint32) float64 {
	exponent, fraction := a>>23&255, a&(1<<23-1)
	sign := a >= minusWord
	switch {
	case noneWord(a):
		return nan
	case exponent == 255:
		return withSign(inf, sign)
	case exponent == 0:
		return withSign(math.Ldexp(float64(fraction), -149), sign)
	}
	return withSign(math.Ldexp(float64(1<<23+fraction), int(exponent)-150), sign)
}

// P5.9, P5.13: Far gives the same parts, and Near leads back from them.
func TestFar(t *testing.T) {
	checkPoint(t, "Far", plane.Far(complex(float32(0.1), float32(-3))), complex(0.10000000149011612, -3))
	list := words()
	for i, re := range list {
		im := list[(i*13+7)%len(list)]
		a := complex(math.Float32frombits(re), math.Float32frombits(im))
		far := plane.Far(a)
		checkPoint(t, fmt.Sprintf("Far of %08X, %08X", re, im), far, complex(farBy(re), farBy(im)))
		if got := wordsOf(plane.Near(far)); got != [2]uint32{oneNaN(re), oneNaN(im)} {
			t.Fatalf("Near(Far) of %08X, %08X: %08X", re, im, got)
		}
	}
}

// P5.10: the bits of the parts, those of a NaN the one NaN's.
func TestBits(t *testing.T) {
	none := math.Float32frombits(0xFFC12345)
	rows := []struct {
		a      complex64
		re, im uint32
	}{
		{complex(1, -2), 0x3F800000, 0xC0000000}, {complex(0, float32(minus)), 0, minusWord}, {complex(float32(inf), float32(-inf)), 0x7F800000, 0xFF800000},
		{complex(none, 1), api.NaN, 0x3F800000}, {complex(1, none), 0x3F800000, api.NaN}, {complex(none, float32(nan)), api.NaN, api.NaN}, {complex(math.Float32frombits(1), math.Float32frombits(0x7F800001)), 1, api.NaN},
	}
	for _, row := range rows {
		if re, im := plane.Bits(row.a); re != row.re || im != row.im {
			t.Errorf("Bits(%v): %08X, %08X, want %08X, %08X", row.a, re, im, row.re, row.im)
		}
	}
}

// P5.10: the point of two words, each in its place; of the bits of any NaN a NaN.
func TestOf(t *testing.T) {
	list := words()
	for i, re := range list {
		im := list[(i*13+7)%len(list)]
		a := plane.Of(re, im)
		for _, part := range []struct {
			x    float32
			word uint32
		}{{real(a), re}, {imag(a), im}} {
			if noneWord(part.word) && part.x == part.x || !noneWord(part.word) && math.Float32bits(part.x) != part.word {
				t.Fatalf("Of(%08X, %08X): %v", re, im, a)
			}
		}
	}
}

// P5.13: there and back of words.
func TestWordsThereAndBack(t *testing.T) {
	if re, im := plane.Bits(plane.Of(0xFFC12345, 0x80000000)); re != 0x7FC00000 || im != 0x80000000 {
		t.Errorf("Bits(Of(FFC12345, 80000000)): %08X, %08X", re, im)
	}
	list := words()
	for i, word := range list {
		other := list[(i*17+3)%len(list)]
		if re, im := plane.Bits(plane.Of(word, other)); re != oneNaN(word) || im != oneNaN(other) {
			t.Fatalf("Bits(Of(%08X, %08X)): %08X, %08X", word, other, re, im)
		}
	}
}

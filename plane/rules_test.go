package plane_test

import (
	"fmt"
	"slices"
	"testing"

	"playpen/api"
	"playpen/plane"
)

// R3: a list that is handed in stays as it is, its spare room too, and no answer has a part in it or in another one.
func TestListsStayAsTheyAre(t *testing.T) {
	room := usualPoints(8)
	before := slices.Clone(room)
	for _, n := range []int{1, 2, 4, 8} {
		given := room[:n]
		plane.Poly(given, complex(2, 3))
		for _, back := range []bool{false, true} {
			first, _ := plane.Wave(given, back)
			second, _ := plane.Wave(given, back)
			want := slices.Clone(second)
			for i := range first[:cap(first)] {
				first[:cap(first)][i] = complex(nan, nan)
			}
			if !slices.Equal(room, before) || !slices.Equal(second, want) {
				t.Fatalf("Wave of %d points, back %v: writing to one answer has changed something else", n, back)
			}
		}
	}
	plane.Poly(slices.Repeat(room, 5), 1)
	plane.Wave(room, false)
	if !slices.Equal(room, before) {
		t.Fatal("a list that was handed in is another")
	}
}

// R4: what is answered does not hang on earlier calls.
func TestAnswersStayTheSame(t *testing.T) {
	points := usualPoints(4)
	first, _ := plane.Wave(points, true)
	value, _ := plane.Poly(points, complex(0.5, 0.25))
	plane.Wave(usualPoints(2), false)
	plane.Poly(make([]complex128, 65), 1)
	again, err := plane.Wave(points, true)
	checkList(t, "Wave again", again, err, first, api.OK)
	checkAnswer(t, "Poly again", answered(plane.Poly(points, complex(0.5, 0.25))), answer{value, api.OK})
}

// R1: no call panics, at whatever it is given, and each does what its promise says.
func FuzzEveryCall(f *testing.F) {
	f.Add(uint64(hBits), uint64(1), uint64(endless), uint64(minusBit), 3, uint(8))
	f.Add(uint64(0x3FF0000000400000), uint64(0x3FF0000000800000), uint64(0x3FF0000000400000), uint64(0x3FF0000000000000), -1, uint(4))
	f.Add(uint64(endless+1), uint64(minusBit+endless), uint64(0), uint64(1<<52-1), 1<<62, uint(65))
	f.Add(uint64(0x1FF0000000000000), uint64(0x1E50000000000000), uint64(0x9FF0000000000000), uint64(0x7FEFFFFFFFFFFFFF), 6, uint(0))
	f.Fuzz(func(t *testing.T, ar, ai, br, bi uint64, quarters int, count uint) {
		a, b := complex(float(ar), float(ai)), complex(float(br), float(bi))
		for _, w := range works() {
			checkPoint(t, fmt.Sprint(w.name, a, b), w.ours(a, b), w.by(a, b))
		}
		checkPoint(t, fmt.Sprint("Turn", a, quarters), plane.Turn(a, quarters), turnBy(a, quarters))
		checkNumber(t, fmt.Sprint("Length", a), plane.Length(a), lengthBy(a))
		checkAnswer(t, fmt.Sprint("Div", a, b), answered(plane.Div(a, b)), divBy(a, b))
		checkAnswer(t, fmt.Sprint("Unit", a), answered(plane.Unit(a)), unitBy(a))
		points := slices.Repeat([]complex128{a, b, plane.Add(a, b)}, 22)[:count%67]
		checkAnswer(t, fmt.Sprint("Poly", points, b), answered(plane.Poly(points, b)), polyBy(points, b))
		checkWave(t, points, quarters%2 == 0)
		if plane.Same(a, b) != sameBy(a, b) {
			t.Fatalf("Same(%v, %v)", a, b)
		}
		if got, want := wordsOf(plane.Near(a)), [2]uint32{nearBy(real(a)), nearBy(imag(a))}; got != want {
			t.Fatalf("Near(%v): %08X, want %08X", a, got, want)
		}
		re, im := uint32(br), uint32(bi)
		point := plane.Of(re, im)
		checkPoint(t, fmt.Sprintf("Far(Of(%08X, %08X))", re, im), plane.Far(point), complex(farBy(re), farBy(im)))
		if r, i := plane.Bits(point); r != oneNaN(re) || i != oneNaN(im) {
			t.Fatalf("Bits(Of(%08X, %08X)): %08X, %08X", re, im, r, i)
		}
	})
}

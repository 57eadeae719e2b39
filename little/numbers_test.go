package little_test

import (
	"bytes"
	"slices"
	"testing"

	"playpen/api"
	"playpen/little"
)

// P2.1: the document's examples.
func TestPutExamples(t *testing.T) {
	for _, x := range []struct{ got, want []byte }{
		{little.Put[uint16](258, 3), []byte{2, 1, 3, 0}},
		{little.Put[uint64](1), []byte{1, 0, 0, 0, 0, 0, 0, 0}},
		{little.Put[uint8](0, 7, 255), []byte{0, 7, 255}},
		{little.Put[uint32](0x04030201, 0xFFFFFFFF), []byte{1, 2, 3, 4, 255, 255, 255, 255}},
		{little.Put[uint64](0x0807060504030201), []byte{1, 2, 3, 4, 5, 6, 7, 8}},
		{little.Put[uint8](), nil},
		{little.Put[uint64](), nil},
	} {
		if !bytes.Equal(x.got, x.want) {
			t.Errorf("Put: %v, want %v", x.got, x.want)
		}
	}
}

// P2.2, P2.3, P2.4: the document's examples.
func TestReadingExamples(t *testing.T) {
	if got, err := little.All[uint32]([]byte{1, 0, 0, 0, 0, 1, 0, 0}); !slices.Equal(got, []uint32{1, 256}) || err != api.OK {
		t.Errorf("All: %v, %d", got, err)
	}
	if got, err := little.All[uint32]([]byte{1, 2, 3}); len(got) != 0 || err != api.ErrRest {
		t.Errorf("All of three bytes: %v, %d", got, err)
	}
	if got, err := little.At[uint16]([]byte{1, 2, 3}, 1); got != 770 || err != api.OK {
		t.Errorf("At: %d, %d", got, err)
	}
	for _, at := range []int{2, -1} {
		if got, err := little.At[uint16]([]byte{1, 2, 3}, at); got != 0 || err != api.ErrEnd {
			t.Errorf("At %d: %d, %d", at, got, err)
		}
	}
	if got, err := little.With[uint16]([]byte{9, 9, 9}, 1, 258); !bytes.Equal(got, []byte{9, 2, 1}) || err != api.OK {
		t.Errorf("With: %v, %d", got, err)
	}
}

func TestEveryWidth(t *testing.T) {
	t.Run("uint8", testWidth[uint8])
	t.Run("uint16", testWidth[uint16])
	t.Run("uint32", testWidth[uint32])
	t.Run("uint64", testWidth[uint64])
}

func testWidth[T little.Whole](t *testing.T) {
	testPut[T](t)
	testAll[T](t)
	testPlaces[T](t)
	testThereAndBack[T](t)
}

// P2.1: the bytes of each number by the document's rule, one number behind the other.
func testPut[T little.Whole](t *testing.T) {
	var want []byte
	for _, x := range edges[T]() {
		if got := little.Put(x); !bytes.Equal(got, bytesOf(x)) {
			t.Errorf("Put(%d): %v, want %v", x, got, bytesOf(x))
		}
		want = append(want, bytesOf(x)...)
	}
	if got := little.Put(edges[T]()...); !bytes.Equal(got, want) {
		t.Errorf("Put of all: %v, want %v", got, want)
	}
}

// P2.2: whole numbers of every count of bytes, and no others.
func testAll[T little.Whole](t *testing.T) {
	for count := range 4*widthOf[T]() + 2 {
		b := rising(count)
		got, err := little.All[T](b)
		if count%widthOf[T]() != 0 {
			if len(got) != 0 || err != api.ErrRest {
				t.Errorf("All of %d bytes: %v, %d", count, got, err)
			}
			continue
		}
		var laid []byte
		for _, x := range got {
			laid = append(laid, bytesOf(x)...)
		}
		if !bytes.Equal(laid, b) || err != api.OK {
			t.Errorf("All of %v: %v, %d", b, got, err)
		}
	}
}

// P2.3, P2.4: at every place in and around lists of every length near the width.
func testPlaces[T little.Whole](t *testing.T) {
	for count := range 2*widthOf[T]() + 3 {
		for _, at := range places(count) {
			testPlace[T](t, rising(count), at)
		}
	}
}

func testPlace[T little.Whole](t *testing.T, b []byte, at int) {
	t.Helper()
	pattern := uint64(0xF1E2D3C4B5A69788)
	x := T(pattern)
	read, readErr := little.At[T](b, at)
	laid, laidErr := little.With(b, at, x)
	if at < 0 || at > len(b)-widthOf[T]() {
		if read != 0 || readErr != api.ErrEnd {
			t.Errorf("At(%v, %d): %d, %d", b, at, read, readErr)
		}
		if len(laid) != 0 || laidErr != api.ErrEnd {
			t.Errorf("With(%v, %d): %v, %d", b, at, laid, laidErr)
		}
		return
	}
	if !bytes.Equal(bytesOf(read), b[at:at+widthOf[T]()]) || readErr != api.OK {
		t.Errorf("At(%v, %d): %d, %d", b, at, read, readErr)
	}
	want := slices.Concat(b[:at], bytesOf(x), b[at+widthOf[T]():])
	if !bytes.Equal(laid, want) || laidErr != api.OK {
		t.Errorf("With(%v, %d): %v, %d; want %v", b, at, laid, laidErr, want)
	}
}

// P2.14: All of Put and Put of All; At of With, and With back.
func testThereAndBack[T little.Whole](t *testing.T) {
	numbers := edges[T]()
	if back, err := little.All[T](little.Put(numbers...)); !slices.Equal(back, numbers) || err != api.OK {
		t.Errorf("All of Put: %v, %d", back, err)
	}
	if back, err := little.All[T](little.Put[T]()); len(back) != 0 || err != api.OK {
		t.Errorf("All of Put of nothing: %v, %d", back, err)
	}
	b := rising(3 * widthOf[T]())
	if read, _ := little.All[T](b); !bytes.Equal(little.Put(read...), b) {
		t.Errorf("Put of All of %v: %v", b, little.Put(read...))
	}
	for at := range 2*widthOf[T]() + 1 {
		for _, x := range numbers {
			old, _ := little.At[T](b, at)
			laid, _ := little.With(b, at, x)
			read, err := little.At[T](laid, at)
			if read != x || err != api.OK {
				t.Fatalf("At of With(%d, %d): %d, %d", at, x, read, err)
			}
			if back, err := little.With(laid, at, old); !bytes.Equal(back, b) || err != api.OK {
				t.Fatalf("With back (%d, %d): %v, %d", at, x, back, err)
			}
		}
	}
}

package image_test

import (
	"bytes"
	"slices"
	"testing"

	"playpen/api"
	"playpen/image"
)

// P8.5: the spans are told as they stand there, whatever else is wrong.
func TestSegments(t *testing.T) {
	anything := make([]byte, 64)
	for i := range anything {
		anything[i] = byte(i)
	}
	for _, x := range []struct {
		b    []byte
		want []api.Span
	}{
		{anything, []api.Span{{At: 0x13121110, Len: 0x17161514}, {At: 0x1B1A1918, Len: 0x1F1E1D1C}, {At: 0x23222120, Len: 0x27262524}, {At: 0x2B2A2928, Len: 0x2F2E2D2C}}},
		{make([]byte, 64), make([]api.Span, 4)},
		{make([]byte, api.MaxFile), make([]api.Span, 4)},
		{bytes.Repeat([]byte{0xFF}, 65), slices.Repeat([]api.Span{{At: 1<<32 - 1, Len: 1<<32 - 1}}, 4)},
		{planOf(fullImage(), 0).file(), []api.Span{{At: 64, Len: 11}, {At: 75, Len: 12}, {At: 87, Len: 3}, {At: 90, Len: 25}}},
	} {
		if got, err := image.Segments(x.b); !slices.Equal(got, x.want) || err != api.OK {
			t.Errorf("Segments(%d bytes): %v, %d, want %v", len(x.b), got, err, x.want)
		}
	}
}

// P8.5, P8.7: too few bytes and too many.
func TestLengths(t *testing.T) {
	for _, n := range []int{0, 1, 4, 63, api.MaxFile + 1, api.MaxFile + 2, 2 * api.MaxFile} {
		if spans, err := image.Segments(make([]byte, n)); len(spans) != 0 || err != api.ErrHeader {
			t.Errorf("Segments of %d bytes: %v, %d", n, spans, err)
		}
		if b, err := image.Seal(make([]byte, n)); len(b) != 0 || err != api.ErrHeader {
			t.Errorf("Seal of %d bytes: %d bytes, %d", n, len(b), err)
		}
	}
}

// P8.7: only the sum is laid in, and it does not hang on the one that stood there.
func TestSeal(t *testing.T) {
	files := [][]byte{make([]byte, 64), make([]byte, api.MaxFile), bytes.Repeat([]byte{0xFF}, 64), bytes.Repeat([]byte{0xFF}, 5000), planOf(fullImage(), 2).file()}
	for _, b := range files {
		want := resealed(b)
		for _, old := range []byte{0, 1, 0x80, 0xFF} {
			for at := 8; at < 12; at++ {
				c := slices.Clone(b)
				c[at] = old
				if got, err := image.Seal(c); !bytes.Equal(got, want) || err != api.OK {
					t.Fatalf("Seal: %x, %d", got[:min(len(got), 64)], err)
				}
			}
		}
	}
}

// P8.4, P8.7: what is sealed has the sum that Parse wants.
func TestSealMendsTheSum(t *testing.T) {
	b := planOf(fullImage(), 0).file()
	long := append(slices.Clone(b), 1)
	if _, at, err := image.Parse(long); at != 8 || err != api.ErrImSum {
		t.Errorf("not sealed: %d, %d", at, err)
	}
	sealed, _ := image.Seal(long)
	if im, at, err := image.Parse(sealed); !sameImage(im, fullImage()) || at != 0 || err != api.OK {
		t.Errorf("sealed: %v, %d, %d", im, at, err)
	}
}

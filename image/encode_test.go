package image_test

import (
	"bytes"
	"encoding/hex"
	"strings"
	"testing"

	"playpen/api"
	"playpen/image"
)

// P8.3: a file byte by byte. Its segments without bytes have the places at which they would stand.
func TestEncodeBytes(t *testing.T) {
	for _, x := range []struct {
		im   api.Image
		want string
	}{
		{
			api.Image{Code: smallCode(), Stack: 64},
			"50454e21 01000000 SSSSSSSS 03000000" +
				"40000000 0b000000 4b000000 00000000 4b000000 00000000 4b000000 00000000" +
				"00000000 40000000 00000000 00000000" +
				"030400 0800000000 040400",
		},
		{
			api.Image{Stack: 32768, Zero: 0x4321},
			"50454e21 01000000 SSSSSSSS 00000000" +
				"40000000 00000000 40000000 00000000 40000000 00000000 40000000 00000000" +
				"21430000 00800000 00000000 00000000",
		},
		{
			api.Image{Code: smallCode()[1:2], Jumps: []uint32{0x04030201}, Data: []byte{9}, Stack: 128, Names: []api.Export{{Name: "xy", At: 0x0D0C0B0A}}},
			"50454e21 01000000 SSSSSSSS 01000000" +
				"40000000 05000000 45000000 04000000 49000000 01000000 4a000000 07000000" +
				"00000000 80000000 00000000 00000000" +
				"0800000000 01020304 09 0a0b0c0d 02 7879",
		},
	} {
		want := unhex(t, x.want)
		b, err := image.Encode(x.im)
		if !bytes.Equal(b, want) || err != api.OK {
			t.Errorf("Encode: %x, %d, want %x", b, err, want)
		}
		if n, err := image.Size(x.im); n != len(want) || err != api.OK {
			t.Errorf("Size: %d, %d, want %d", n, err, len(want))
		}
	}
}

// unhex reads a file of hexadecimal bytes and lays its sum in.
func unhex(t *testing.T, s string) []byte {
	t.Helper()
	b, err := hex.DecodeString(strings.ReplaceAll(strings.ReplaceAll(s, " ", ""), "S", "0"))
	if err != nil {
		t.Fatal(err)
	}
	return resealed(b)
}

// P8.3, P8.8: images from all over are written down as the document says, and read again as they were.
func TestThereAndBack(t *testing.T) {
	words := scattered(6000)
	images := []api.Image{fullImage(), greatest(), {Stack: 64}, {Code: nops(16384), Stack: 64}, {Stack: 64, Names: named(rising(64)...)}}
	for i := range 300 {
		images = append(images, someImage(words[i*17:i*17+10+i%40]))
	}
	for _, im := range images {
		checkEncode(t, im)
		b, err := image.Encode(im)
		if err != api.OK || !image.Canonical(b) {
			t.Fatalf("Encode: %d, canonical %t", err, image.Canonical(b))
		}
		if back, at, err := image.Parse(b); !sameImage(back, im) || at != 0 || err != api.OK {
			t.Fatalf("Parse of Encode: %v, %d, %d, want %v", back, at, err, im)
		}
	}
}

// P8.3: no image has more bytes than a file may have.
func TestGreatestFits(t *testing.T) {
	n, err := image.Size(greatest())
	if want := 64 + 5*16384 + 4*16384 + 65472 + 64*37; n != want || n > api.MaxFile || err != api.OK {
		t.Errorf("Size: %d, %d, want %d", n, err, want)
	}
}

// P8.6: bytes behind the last segment, between segments or ahead of them, segments in another order and other places of empty ones are not canonical.
func TestCanonical(t *testing.T) {
	im := fullImage()
	if b := planOf(im, 0).file(); !image.Canonical(b) {
		t.Errorf("not canonical: %x", b)
	}
	longer := planOf(im, 0)
	longer.body = append(longer.body, 0)
	empty := planOf(api.Image{Code: smallCode(), Stack: 64}, 0)
	empty.spans[2].At = 0
	turned := planOf(im, 0)
	code, jumps := turned.spans[0], turned.spans[1]
	turned.spans[1].At = code.At
	turned.spans[0].At = code.At + jumps.Len
	turned.body = append(append(append([]byte{}, turned.body[code.Len:][:jumps.Len]...), turned.body[:code.Len]...), turned.body[code.Len+jumps.Len:]...)
	for what, p := range map[string]plan{"a byte more": longer, "gaps": planOf(im, 3), "an empty segment elsewhere": empty, "another order": turned} {
		b := p.file()
		if _, _, err := image.Parse(b); err != api.OK || image.Canonical(b) {
			t.Errorf("%s: %d, canonical %t", what, err, image.Canonical(b))
		}
		checkParse(t, b)
	}
	for _, b := range [][]byte{nil, make([]byte, 63), make([]byte, 64), make([]byte, api.MaxFile+1)} {
		if image.Canonical(b) {
			t.Errorf("canonical: %d noughts", len(b))
		}
	}
	wrong := planOf(im, 0)
	wrong.wrong = 1
	if image.Canonical(wrong.file()) {
		t.Error("canonical with a wrong sum")
	}
}

package image_test

import (
	"bytes"
	"slices"
	"sync"
	"testing"

	"playpen/api"
	"playpen/image"
)

// roomy gives an image whose lists have spare room with something in it.
func roomy() (api.Image, api.Image) {
	im := fullImage()
	im.Code = append(im.Code, nops(9)...)
	im.Jumps = append(im.Jumps, 7, 7, 7)
	im.Data = append(im.Data, 7, 7, 7)
	im.Names = append(im.Names, named("c", "d")...)
	whole := cloned(im)
	im.Code, im.Jumps, im.Data, im.Names = im.Code[:3], im.Jumps[:3], im.Data[:3], im.Names[:4]
	return im, whole
}

// R3: arguments stay as they are, the spare room of their lists too.
func TestArgumentsStay(t *testing.T) {
	im, whole := roomy()
	image.Check(im)
	image.Bits(im)
	image.Size(im)
	image.Encode(im)
	im.Code, im.Jumps, im.Data, im.Names = im.Code[:12], im.Jumps[:6], im.Data[:6], im.Names[:6]
	if !sameImage(im, whole) {
		t.Errorf("the image became %v", im)
	}
	b := gapped().file()
	kept := slices.Clone(b)
	for i := range b {
		image.Parse(b[:i])
		image.Segments(b[:i])
		image.Canonical(b[:i])
		image.Seal(b[:i])
	}
	image.Parse(b)
	if !bytes.Equal(b, kept) {
		t.Errorf("the bytes became %x", b)
	}
}

// spoil writes over every list of an image, spare room too.
func spoil(im api.Image) {
	clear(im.Code[:cap(im.Code)])
	clear(im.Jumps[:cap(im.Jumps)])
	clear(im.Data[:cap(im.Data)])
	clear(im.Names[:cap(im.Names)])
}

// R3: what is answered is memory of its own, spare room too.
func TestAnswersAreTheirOwn(t *testing.T) {
	im := fullImage()
	b, _ := image.Encode(im)
	kept := slices.Clone(b)
	spoil(im)
	if !bytes.Equal(b, kept) {
		t.Errorf("Encode's bytes became %x", b)
	}
	one, _, _ := image.Parse(b)
	other, _, _ := image.Parse(b)
	sealed, _ := image.Seal(b)
	spans, _ := image.Segments(b)
	wantSpans := slices.Clone(spans)
	clear(b[:cap(b)])
	if !sameImage(one, fullImage()) || !bytes.Equal(sealed, kept) || !slices.Equal(spans, wantSpans) {
		t.Errorf("answers share memory with the bytes: %v, %x, %v", one, sealed, spans)
	}
	spoil(one)
	if !sameImage(other, fullImage()) {
		t.Errorf("images share memory: %v", other)
	}
	again, _ := image.Segments(kept)
	clear(spans[:cap(spans)])
	if !slices.Equal(again, wantSpans) {
		t.Errorf("spans share memory: %v", again)
	}
}

// R3: no two lists of one image share memory.
func TestListsAreTheirOwn(t *testing.T) {
	b := gapped().file()
	for i, write := range []func(im api.Image){
		func(im api.Image) { clear(im.Code[:cap(im.Code)]) },
		func(im api.Image) { clear(im.Jumps[:cap(im.Jumps)]) },
		func(im api.Image) { clear(im.Data[:cap(im.Data)]) },
		func(im api.Image) { clear(im.Names[:cap(im.Names)]) },
	} {
		im, _, _ := image.Parse(b)
		write(im)
		want := fullImage()
		write(want)
		if !sameImage(im, want) {
			t.Errorf("list %d: %v", i, im)
		}
	}
}

// R4: calls that go on side by side do not see one another.
func TestSideBySide(t *testing.T) {
	words := scattered(400)
	var all sync.WaitGroup
	for n := range 8 {
		all.Go(func() {
			for i := range 20 {
				im := someImage(words[n*40+i : n*40+i+20])
				b, _ := image.Encode(im)
				if back, _, err := image.Parse(b); !sameImage(back, im) || err != api.OK {
					t.Errorf("Parse: %v, %d", back, err)
					return
				}
			}
		})
	}
	all.Wait()
}

// R1: no call panics, at whatever it is given, and each does what its promise says.
func FuzzEveryCall(f *testing.F) {
	f.Add(gapped().file(), uint32(5), uint32(64), "a", "b")
	f.Add(planOf(fullImage(), 0).file(), uint32(65536), uint32(66), "b", "a")
	f.Add(planOf(api.Image{Stack: 64}, 0).file(), uint32(1<<32-1), uint32(32768), "", "")
	f.Add(make([]byte, 63), uint32(0), uint32(0), "a", "a")
	f.Add(namesFile([]byte("\x00\x00\x00\x00\x02a")), uint32(448), uint32(64), "aa", "ab")
	f.Fuzz(func(t *testing.T, b []byte, zero, stack uint32, name, next string) {
		checkParse(t, b)
		checkBack(t, b)
		spans, err := image.Segments(b)
		sealed, sealErr := image.Seal(b)
		if err != sealErr || (err == api.OK) != (len(b) >= 64 && len(b) <= 1<<20) {
			t.Fatalf("Segments: %d, Seal: %d", err, sealErr)
		}
		if err == api.OK {
			if !bytes.Equal(sealed, resealed(b)) || len(spans) != 4 || spans[3].Len != word(b, 44) {
				t.Fatalf("Seal: %x, Segments: %v", sealed, spans)
			}
			checkParse(t, sealed)
			checkBack(t, sealed)
		}
		im, _, _ := image.Parse(sealed)
		im.Zero, im.Stack = zero, stack
		im.Names = append(im.Names, named(name, next)...)
		checkEncode(t, im)
	})
}

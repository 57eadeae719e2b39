package list_test

import (
	"encoding/hex"
	"strings"
	"testing"

	"playpen/api"
	"playpen/asm"
	"playpen/image"
	"playpen/link"
	"playpen/list"
)

// P12.5, and P7 of the whole: an image whose text is assembled and linked is the image again.
func TestThereAndBack(t *testing.T) {
	d := &dice{words: scattered(99991), next: 500}
	for range 3000 {
		im := someImage(d, 0)
		if image.Check(im) != api.OK {
			t.Fatalf("%v may not be", im)
		}
		if err := checkImage(t, im); err != api.OK {
			t.Fatalf("%v: %d", im, err)
		}
	}
	checkImage(t, full())
}

// P12.5: what Text tells of a linked image is, linked again, just that text once more.
func TestTextOfText(t *testing.T) {
	d := &dice{words: scattered(99991), next: 77}
	for range 300 {
		text, _ := list.Text(someImage(d, 0))
		object, _ := asm.Assemble(text)
		im, _, _ := link.Link([]api.Object{object})
		if again, err := list.Text(im); again != text || err != api.OK {
			t.Errorf("%q, %d, want %q", again, err, text)
		}
	}
}

// turns change an image in one thing each.
func turns(d *dice) []func(im *api.Image) {
	return []func(im *api.Image){
		func(im *api.Image) { im.Zero += 4 },
		func(im *api.Image) { im.Stack += 4 },
		func(im *api.Image) { im.Data = append(im.Data, 0) },
		func(im *api.Image) { im.Code = append(im.Code, someInstruction(d, 9)) },
		func(im *api.Image) {
			if len(im.Code) > 0 {
				im.Code[d.upTo(int64(len(im.Code)-1))] = someInstruction(d, int64(len(im.Code)))
			}
		},
		func(im *api.Image) {
			if len(im.Data) > 0 {
				im.Data[d.upTo(int64(len(im.Data)-1))] ^= byte(d.upTo(255))
			}
		},
		func(im *api.Image) {
			if len(im.Jumps) > 0 {
				im.Jumps = im.Jumps[1:]
			}
		},
		func(im *api.Image) {
			if len(im.Names) > 0 {
				im.Names[0].At = uint32(d.upTo(int64(len(im.Code))))
			}
		},
		func(im *api.Image) {
			if len(im.Names) > 0 {
				im.Names = im.Names[:len(im.Names)-1]
			}
		},
	}
}

// P12.5: two images with one text are one image.
func TestOneTextOneImage(t *testing.T) {
	d := &dice{words: scattered(99991), next: 3000}
	for range 500 {
		im := someImage(d, 0)
		text, _ := list.Text(im)
		for i, turn := range turns(d) {
			other := cloned(im)
			turn(&other)
			otherText, err := list.Text(other)
			if err != api.OK {
				t.Fatalf("turn %d: %v: %d", i, other, err)
			}
			if (text == otherText) != sameImage(im, other) {
				t.Errorf("turn %d: %v and %v, %q and %q", i, im, other, text, otherText)
			}
		}
	}
}

// checkPairs holds P12.6: the hexadecimal pairs behind the first column are the bytes.
func checkPairs(t *testing.T, b []byte, dump string) {
	t.Helper()
	var pairs strings.Builder
	for line := range strings.Lines(dump) {
		for i := 8; i+2 <= len(line) && isPair(line[i:i+2]); i += 3 {
			pairs.WriteString(line[i : i+2])
		}
	}
	if pairs.String() != hex.EncodeToString(b) {
		t.Fatalf("Dump(% x): the pairs are %s", b, pairs.String())
	}
}

// isPair tells whether two bytes are small hexadecimal digits.
func isPair(s string) bool { return strings.Trim(s, "0123456789abcdef") == "" }

// P12.6: over many bytes; what is dumped can be told apart by its text.
func TestPairs(t *testing.T) {
	d := &dice{words: scattered(9973), next: 5}
	for range 2000 {
		var b []byte
		for range d.upTo(40) {
			b = append(b, byte(d.upTo(70)))
		}
		checkDump(t, b)
	}
}

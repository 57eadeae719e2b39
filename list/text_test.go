package list_test

import (
	"bytes"
	"slices"
	"testing"

	"playpen/api"
	"playpen/asm"
	"playpen/list"
)

// The chapter's example 2, with the byte 9 where it has a blank.
const sampleText = `code
at0:
	enter 8
at1:
	const 0
	const 1
	eq at5
	goto at1
at5:
	const 7
	leave 8
zero
	space 4
stack 64
target at5
entry "main", at0
`

func TestExampleText(t *testing.T) {
	tryText(t, "example 2", sample(), sampleText)
}

func tryText(t *testing.T, what string, im api.Image, want string) {
	t.Helper()
	text, err := list.Text(im)
	if text != want || err != api.OK {
		t.Errorf("%s: %q, %d, want %q", what, text, err, want)
	}
	checkImage(t, im)
}

// P12.3: what is in no list is not told; data and names stand as literals; a label may be the last of the code.
func TestTexts(t *testing.T) {
	tryText(t, "nothing", api.Image{Stack: 64}, "code\nstack 64\n")
	tryText(t, "a goto beyond", api.Image{Code: []api.Instr{{Op: api.OpGoto, Arg: 2}, {Op: api.OpGoto, Arg: 3}}, Stack: 64},
		"code\n\tgoto at2\n\tgoto 3\nat2:\nstack 64\n")
	tryText(t, "full", full(), `code
at0:
	enter 8
at1:
	const 0
at2:
	const 1
	eq at5
	goto at1
at5:
	const 7
	leave 8
at7:
data
	bytes "data \0\xff and more"
	bytes " than one row"
zero
	space 4
stack 64
target at2
target at5
target at7
entry "\0\xff", at7
entry "main", at0
entry "same", at0
`)
}

// longImage gives an image whose text has just so many bytes: a little too much of everything, then some shorter operands.
func longImage(size int) api.Image {
	const line, row = "\tlocal -2147483648\n", `.bytes "\xff\xff\xff\xff\xff\xff\xff\xff\xff\xff\xff\xff\xff\xff\xff\xff".`
	rest := size - len("code\ndata\nstack 64\n") - 16384*len(line)
	rows := rest/len(row) + 1
	tooMuch := rows*len(row) - rest
	im := api.Image{
		Code:  slices.Repeat([]api.Instr{{Op: api.OpLocal, Arg: 1 << 31}}, 16384),
		Data:  bytes.Repeat([]byte{0xFF}, 16*rows),
		Stack: 64,
	}
	for i := range tooMuch {
		im.Code[i].Arg = 1<<32 - 123456789
	}
	return im
}

// P12.3: a text of MaxAsm bytes is told, one of a byte more is ErrAsmRoom, though it has an object.
func TestTextRoom(t *testing.T) {
	for size := api.MaxAsm - 10; size <= api.MaxAsm; size++ {
		text, err := list.Text(longImage(size))
		if len(text) != size || err != api.OK {
			t.Fatalf("%d bytes, %d, want %d", len(text), err, size)
		}
	}
	text, _ := list.Text(longImage(api.MaxAsm))
	checkBack(t, longImage(api.MaxAsm), text)
	for size := api.MaxAsm + 1; size < api.MaxAsm+10; size++ {
		text, err := list.Text(longImage(size))
		if text != "" || err != api.ErrAsmRoom {
			t.Errorf("%d bytes too many: %d bytes, %d", size-api.MaxAsm, len(text), err)
		}
	}
	if _, err := asm.Print(mustObject(t, "a byte more", longImage(api.MaxAsm+1))); err != api.ErrAsmRoom {
		t.Errorf("asm's Print: %d", err)
	}
}

// P12.3: the greatest image has no text, but an object.
func TestTextOfTheGreatest(t *testing.T) {
	im := api.Image{
		Code:  slices.Repeat([]api.Instr{{Op: api.OpLocal, Arg: 1 << 31}}, 16384),
		Data:  bytes.Repeat([]byte{0xFF}, 65536-64),
		Jumps: upTo(4096),
		Stack: 64,
	}
	if err := checkImage(t, im); err != api.ErrAsmRoom {
		t.Errorf("%d, want ErrAsmRoom", err)
	}
	im.Jumps = upTo(4097)
	tryImage(t, "too many places", im, api.ErrPlaces)
}

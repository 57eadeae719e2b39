package isa_test

import (
	"bytes"
	"slices"
	"testing"

	"playpen/api"
	"playpen/isa"
)

// example is the code of the chapter's examples.
func example() []api.Instr {
	return []api.Instr{{Op: api.OpEnter, Arg: 8}, {Op: api.OpConst, Arg: 258}, {Op: api.OpLeave, Arg: 8}}
}

// P7.4, P7.6: the chapter's examples.
func TestEncodeExamples(t *testing.T) {
	if got := encoded(example()); got != (coded{"\x03\x08\x00\x08\x02\x01\x00\x00\x04\x08\x00", 0, api.OK}) {
		t.Errorf("Encode: %x, %d, %d", got.bytes, got.index, got.err)
	}
	if places, err := isa.Places(example()); !slices.Equal(places, []int{0, 3, 8, 11}) || err != api.OK {
		t.Errorf("Places: %v, %d", places, err)
	}
	if got := encoded([]api.Instr{{Op: api.OpNop}, {Op: api.OpArg, Arg: 15}, {}}); got != (coded{"", 1, api.ErrOperand}) {
		t.Errorf("Encode: %x, %d, %d", got.bytes, got.index, got.err)
	}
	if got := encoded(nil); got != (coded{}) {
		t.Errorf("Encode of nothing: %x, %d, %d", got.bytes, got.index, got.err)
	}
}

// P7.4: each operation with each operand at an edge, those that may not be too, with and without something ahead of it.
func TestEncodeEach(t *testing.T) {
	table := rows()
	for _, op := range everyOp() {
		for _, arg := range edgeArgs() {
			in := api.Instr{Op: op, Arg: arg}
			checkEncode(t, table, []api.Instr{in})
			checkEncode(t, table, []api.Instr{{Op: api.OpConst, Arg: 0xFFEEDDCC}, in, {Op: api.OpArg, Arg: 3}, {Op: 0}, {Op: api.OpPop, Arg: 1}})
		}
	}
}

// P7.4: the first instruction that may not be is told, whatever stands behind it.
func TestEncodeFirst(t *testing.T) {
	table := rows()
	code := wellFormed(table, scattered(40))
	for i := range code {
		for _, in := range []api.Instr{{Op: 0, Arg: 0}, {Op: 60, Arg: 9}, {Op: api.OpNop, Arg: 1}, {Op: api.OpCopy, Arg: 257}} {
			wrong := slices.Clone(code)
			wrong[i] = in
			wrong[len(wrong)-1] = api.Instr{Op: 0}
			checkEncode(t, table, wrong)
		}
	}
}

// P7.4, P7.5: the most instructions and one more; that there are too many is told ahead of every other fault.
func TestMostInstructions(t *testing.T) {
	table := rows()
	for _, count := range []int{api.MaxInstrs - 1, api.MaxInstrs, api.MaxInstrs + 1, api.MaxInstrs + 2, 2 * api.MaxInstrs} {
		checkEncode(t, table, nops(count))
		checkDecode(t, table, bytes.Repeat([]byte{1}, count))
	}
	for _, at := range []int{0, 1, api.MaxInstrs - 1, api.MaxInstrs} {
		wrong := nops(api.MaxInstrs + 1)
		wrong[at] = api.Instr{Op: 0}
		if got := encoded(wrong); got != (coded{"", api.MaxInstrs, api.ErrInstrs}) {
			t.Errorf("one too many, wrong at %d: %d, %d", at, got.index, got.err)
		}
	}
	long := wellFormed(table, scattered(api.MaxInstrs))
	checkEncode(t, table, long)
	b, _, _ := isa.Encode(long)
	checkDecode(t, table, b)
	for _, tail := range []string{"\x00", "\x01", "\xff", "\x08", "\x0c\x0f"} {
		code, at, err := isa.Decode(append(slices.Clone(b), tail...))
		if len(code) != 0 || at != len(b) || err != api.ErrInstrs {
			t.Errorf("the most and %x: %d instructions, %d, %d", tail, len(code), at, err)
		}
	}
}

// P7.5: the chapter's examples.
func TestDecodeExamples(t *testing.T) {
	for _, c := range []struct {
		b    string
		code []api.Instr
		at   int
		err  api.Errno
	}{
		{"", nil, 0, api.OK},
		{"\x01\x0c\x0f", nil, 1, api.ErrOperand},
		{"\x01\x08\x02\x01", nil, 1, api.ErrCut},
		{"\x01\x00\x08", nil, 1, api.ErrOp},
		{"\x03\x08\x00\x08\x02\x01\x00\x00\x04\x08\x00", example(), 0, api.OK},
		{"\x0c", nil, 0, api.ErrCut},
		{"\x06\xff\x3f\x06\x00\x40", nil, 3, api.ErrOperand},
		{"\x08\xff\xff\xff\xff", []api.Instr{{Op: api.OpConst, Arg: 0xFFFFFFFF}}, 0, api.OK},
	} {
		code, at, err := isa.Decode([]byte(c.b))
		if !slices.Equal(code, c.code) || at != c.at || err != c.err {
			t.Errorf("Decode(%x): %v, %d, %d", c.b, code, at, err)
		}
	}
}

// P7.5, P7.7: each byte as an operation, with operands of all lengths and at the edges of all widths behind it.
func TestDecodeEach(t *testing.T) {
	table := rows()
	for first := range 256 {
		for _, arg := range edgeArgs() {
			operand := []byte{byte(arg), byte(arg >> 8), byte(arg >> 16), byte(arg >> 24)}
			for length := range 5 {
				b := append([]byte{byte(first)}, operand[:length]...)
				checkDecode(t, table, b)
				checkDecode(t, table, append([]byte{9, 1, 2, 3, 4, 10}, b...))
			}
		}
	}
}

// P7.5, P7.7: every cut of bytes that are in order, and every such list with one byte changed.
func TestDecodeCutAndChanged(t *testing.T) {
	table := rows()
	b, _, _ := isa.Encode(wellFormed(table, scattered(60)))
	for i := range b {
		checkDecode(t, table, b[:i])
		for _, to := range []byte{0, 1, 8, 12, 35, 59, 60, 255, b[i] + 1} {
			changed := slices.Clone(b)
			changed[i] = to
			checkDecode(t, table, changed)
		}
	}
}

// P7.5: three bytes of all kinds, as many lists as there are.
func TestDecodeShort(t *testing.T) {
	table := rows()
	some := []byte{0, 1, 3, 5, 8, 10, 12, 13, 14, 15, 35, 39, 59, 60, 63, 64, 128, 255}
	for _, x := range some {
		for _, y := range some {
			for _, z := range some {
				checkDecode(t, table, []byte{x, y, z})
			}
		}
	}
}

// P7.6: the places are those at which the bytes of the instructions begin, and their number.
func TestPlaces(t *testing.T) {
	table := rows()
	for _, count := range []int{0, 1, 2, 59, 1000, api.MaxInstrs} {
		code := wellFormed(table, scattered(count))
		b, _, _ := isa.Encode(code)
		var want []int
		for at := range isa.Walk(b) {
			want = append(want, at)
		}
		want = append(want, len(b))
		if places, err := isa.Places(code); !slices.Equal(places, want) || err != api.OK || len(places) != count+1 {
			t.Errorf("Places of %d: %v, %d", count, brief(places), err)
		}
	}
}

// P7.6: Places refuses what Encode refuses, with its error.
func TestPlacesRefuses(t *testing.T) {
	tooMany := nops(api.MaxInstrs + 1)
	tooMany[0].Op = 0
	for _, c := range []struct {
		code []api.Instr
		err  api.Errno
	}{
		{[]api.Instr{{Op: api.OpNop}, {Op: api.OpArg, Arg: 15}, {}}, api.ErrOperand},
		{[]api.Instr{{Op: api.OpNop}, {}, {Op: api.OpArg, Arg: 15}}, api.ErrOp},
		{[]api.Instr{{Op: 60}}, api.ErrOp},
		{tooMany, api.ErrInstrs},
	} {
		if places, err := isa.Places(c.code); len(places) != 0 || err != c.err {
			t.Errorf("Places(%v): %v, %d", brief(c.code), brief(places), err)
		}
	}
}

// P7.8: code to bytes and back, bytes to code and back.
func TestThereAndBack(t *testing.T) {
	table := rows()
	words := scattered(3000)
	for count := range 60 {
		code := wellFormed(table, words[count*40:count*40+count])
		b, _, err := isa.Encode(code)
		if err != api.OK {
			t.Fatalf("Encode(%v): %d", code, err)
		}
		back, _, err := isa.Decode(b)
		if !slices.Equal(back, code) || err != api.OK {
			t.Fatalf("Decode(Encode(%v)): %v, %d", code, back, err)
		}
		again, _, err := isa.Encode(back)
		if !slices.Equal(again, b) || err != api.OK {
			t.Fatalf("Encode(Decode(%x)): %x, %d", b, again, err)
		}
	}
}

// P7.9: the bytes of two codes joined are those of both, one behind the other.
func TestJoined(t *testing.T) {
	code := wellFormed(rows(), scattered(80))
	whole, _, _ := isa.Encode(code)
	for i := range len(code) + 1 {
		first, _, _ := isa.Encode(code[:i])
		second, _, _ := isa.Encode(code[i:])
		if !slices.Equal(append(first, second...), whole) {
			t.Fatalf("cut at %d the bytes are others", i)
		}
	}
	half, _, _ := isa.Encode(nops(api.MaxInstrs / 2))
	if code, _, err := isa.Decode(append(slices.Clone(half), half...)); len(code) != api.MaxInstrs || err != api.OK {
		t.Errorf("two halves: %d instructions, %d", len(code), err)
	}
}

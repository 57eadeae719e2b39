package fuse_test

import (
	"slices"
	"testing"

	"playpen/api"
	"playpen/fuse"
)

// P22.3: a row goes on where the thing ahead ends, up to the stretch's end and not beyond it.
func TestRowToItsEnd(t *testing.T) {
	code := lines(t, `0 enter 8, 1 const 2, 2 const 3, 3 add, 4 arg 0, 5 local 12, 6 load4, 7 const 9, 8 lti 12, 9 const 0,
		10 call, 11 pop, 12 const 0, 13 leave 8`)
	wantRow(t, code, 0, 14, alone(0, code[0]), thing(1, 4, api.FuseArgConst, 0, 5, 0), thing(5, 2, api.FuseLoadLocal, api.OpLoad4, 12, 0),
		thing(7, 2, api.FuseBranchConst, api.OpLti, 9, 12), thing(9, 2, api.FuseCallConst, 0, 0, 0), alone(11, code[11]), alone(12, code[12]), alone(13, code[13]))
	wantRow(t, code, 2, 8, thing(2, 2, api.FuseOpConst, api.OpAdd, 3, 0), alone(4, code[4]),
		thing(5, 2, api.FuseLoadLocal, api.OpLoad4, 12, 0), alone(7, code[7]))
	wantRow(t, code, 1, 4, thing(1, 3, api.FusePush, 0, 5, 0))
	wantRow(t, code, 13, 14, alone(13, code[13]))
	// What a whole stretch would give is not what its parts give.
	bump := lines(t, "local 4, local 4, load4, const 1, add, store4, nop, nop")
	wantRow(t, bump, 0, 8, thing(0, 6, api.FuseBump, api.OpAdd, 4, 1), thing(6, 2, api.FuseNone, 0, 0, 0))
	wantRow(t, bump, 0, 5, alone(0, bump[0]), thing(1, 2, api.FuseLoadLocal, api.OpLoad4, 4, 0), thing(3, 2, api.FuseOpConst, api.OpAdd, 1, 0))
	wantRow(t, bump, 1, 7, thing(1, 2, api.FuseLoadLocal, api.OpLoad4, 4, 0), thing(3, 2, api.FuseOpConst, api.OpAdd, 1, 0), alone(5, bump[5]), alone(6, bump[6]))
}

// P22.3: a row ends ahead of an instruction that may not be, at a thing's beginning or in the midst of what would have been one.
func TestRowMayNotBe(t *testing.T) {
	code := lines(t, "const 1, add, local 4, load4, sub, nop, nop")
	for at := range code {
		for _, bad := range []api.Instr{in(0, 0), in(60, 3), in(api.OpPop, 1), in(api.OpArg, 15)} {
			spoilt := with(code, at, bad)
			length := uint32(0)
			for _, next := range checkRow(t, spoilt, 0, 7) {
				length += next.Len
			}
			if length != uint32(at) {
				t.Errorf("bad at %d: %d instructions are told", at, length)
			}
		}
	}
	wantRow(t, with(code, 0, in(0, 0)), 0, 7)
	wantRow(t, with(code, 3, in(api.OpLoad4, 1)), 0, 7, thing(0, 2, api.FuseOpConst, api.OpAdd, 1, 0), alone(2, code[2]))
}

// P22.3, R4: nothing, and never nil, of a stretch that does not lie in the code.
func TestRowOutside(t *testing.T) {
	for _, code := range [][]api.Instr{examples(t), lines(t, "nop"), {}, nil} {
		for _, span := range outside(uint32(len(code))) {
			row := fuse.Row(code, span[0], span[1])
			if row == nil {
				t.Fatalf("nil of %v", span)
			}
			for next := range row {
				t.Errorf("Row of %v: %v", span, next)
			}
		}
	}
}

// P22.3: a row may be left early, at every place, and be gone through again from the front.
func TestRowLeft(t *testing.T) {
	code := newDice(7).someRow(60)
	for i := range code {
		if mayBe(code[i]) != api.OK {
			code[i] = in(api.OpNop, 0)
		}
	}
	row := fuse.Row(code, 3, 57)
	want := slices.Collect(row)
	if len(want) < 10 {
		t.Fatalf("%d things", len(want))
	}
	for leave := 1; leave <= len(want); leave++ {
		var got []api.Fused
		for next := range row {
			got = append(got, next)
			if len(got) == leave {
				break
			}
		}
		if !slices.Equal(got, want[:leave]) {
			t.Fatalf("left after %d: %v, want %v", leave, got, want[:leave])
		}
	}
	if again := slices.Collect(row); !slices.Equal(again, want) {
		t.Errorf("again: %v, want %v", again, want)
	}
}

// P22.3: a row within the same row.
func TestRowWithin(t *testing.T) {
	row := fuse.Row(lines(t, "nop, pop, local 4, load4, break, const 3, add"), 0, 7)
	want := slices.Collect(row)
	var outer []api.Fused
	for next := range row {
		outer = append(outer, next)
		if inner := slices.Collect(row); !slices.Equal(inner, want) {
			t.Fatalf("%v, want %v", inner, want)
		}
	}
	if len(outer) != 5 || !slices.Equal(outer, want) {
		t.Errorf("%v, want %v", outer, want)
	}
}

// P22.3, R3: a row tells what the code was when Row was called, though it is written over ahead of going through it and meanwhile.
func TestRowKeepsItsOwn(t *testing.T) {
	code := examples(t)
	want := rowBy(code, 0, 13)
	row := fuse.Row(code, 0, 13)
	code[0] = in(0, 0)
	var got []api.Fused
	for next := range row {
		got = append(got, next)
		spoil(code, in(77, 77))
	}
	if !slices.Equal(got, want) {
		t.Errorf("%v, want %v", got, want)
	}
	if again := slices.Collect(row); !slices.Equal(again, want) {
		t.Errorf("again: %v, want %v", again, want)
	}
}

// P22.3: code of more instructions than an image has, as one thing, as one each, and with words that stay.
func TestLongRows(t *testing.T) {
	const count = 40000
	code := slices.Repeat([]api.Instr{in(api.OpNop, 0)}, count)
	wantCount(t, code, 1)
	for i := range 63 {
		code[i] = in(api.OpConst, 9)
	}
	wantCount(t, code, 63)
	for i := range code {
		code[i] = in(api.OpLocal, uint32(i))
	}
	wantCount(t, code, count)
	for i := range code {
		code[i] = in([]api.Op{api.OpConst, api.OpNop, api.OpArg, api.OpPop}[i%4], 0)
	}
	wantCount(t, code, count/2)
}

// wantCount wants a row of the whole code to have so many things, that go through all of it.
func wantCount(t testing.TB, code []api.Instr, want int) {
	t.Helper()
	count, at := 0, uint32(0)
	for next := range fuse.Row(code, 0, uint32(len(code))) {
		if next.At != at {
			t.Fatalf("%v, behind %d instructions", next, at)
		}
		at += next.Len
		count++
	}
	if int(at) != len(code) || count != want {
		t.Errorf("%d things of %d instructions, want %d", count, at, want)
	}
}

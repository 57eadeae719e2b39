package fuse_test

import (
	"slices"
	"testing"

	"playpen/api"
	"playpen/fuse"
)

// P22.2: a stretch that does not lie in the code is refused, whatever its first instruction is.
func TestStretchOutside(t *testing.T) {
	for _, code := range [][]api.Instr{examples(t), {in(0, 0), in(api.OpPop, 1), in(200, 9)}, lines(t, "nop"), {}, nil} {
		for _, span := range outside(uint32(len(code))) {
			wantRefused(t, code, span[0], span[1], api.ErrArg)
		}
	}
}

// P22.2: the first instruction of a stretch must be one that may be; the others need not.
func TestFirstMayNotBe(t *testing.T) {
	for number := range 256 {
		op := api.Op(number)
		for _, arg := range []uint32{0, mostBy(op), mostBy(op) + 1, 1<<32 - 1} {
			first := in(op, arg)
			code := []api.Instr{in(api.OpNop, 0), first, in(api.OpNop, 0)}
			if err := mayBe(first); err != api.OK {
				wantRefused(t, code, 1, 2, err)
				wantRefused(t, code, 1, 3, err)
				wantLongest(t, code, 0, 3, alone(0, code[0]))
				continue
			}
			wantLongest(t, code, 1, 2, alone(1, first))
			checkLongest(t, code, 1, 3)
			checkLongest(t, code, 0, 3)
		}
	}
}

// P22.2: of the shapes that fit the longest is told.
func TestLongestOfShapes(t *testing.T) {
	for _, c := range []struct {
		source string
		end    uint32
		want   api.Fused
	}{
		{"local 4, load4, add", 1, alone(0, in(api.OpLocal, 4))},
		{"local 4, load4, add", 2, thing(0, 2, api.FuseLoadLocal, api.OpLoad4, 4, 0)},
		{"local 4, load4, add", 3, thing(0, 3, api.FuseOpLocal, api.OpAdd, 4, 0)},
		{"local 4, load4, ltu 2", 3, thing(0, 3, api.FuseBranchLocal, api.OpLtu, 4, 2)},
		{"local 4, load2, add", 3, thing(0, 2, api.FuseLoadLocal, api.OpLoad2, 4, 0)},
		{"local 4, load1, ltu 2", 3, thing(0, 2, api.FuseLoadLocal, api.OpLoad1, 4, 0)},
		{"local 4, store4, nop", 3, alone(0, in(api.OpLocal, 4))},
		{"const 4, neg, load1", 1, alone(0, in(api.OpConst, 4))},
		{"const 4, neg, load1", 2, thing(0, 2, api.FusePush, 0, 0xFFFFFFFC, 0)},
		{"const 4, neg, load1", 3, thing(0, 3, api.FuseLoadConst, api.OpLoad1, 0xFFFFFFFC, 0)},
		// A row that closes behind a constant is longer than the shape could be.
		{"const 4, pop, nop, add", 4, thing(0, 3, api.FuseNone, 0, 0, 0)},
		{"const 4, const 5, store1, nop", 4, alone(0, in(api.OpConst, 4))},
		{"const 4, const 5, add, add, add", 5, thing(0, 4, api.FuseOpConst, api.OpAdd, 9, 0)},
		{"const 4, const 4, eq 7, eq 8", 4, thing(0, 3, api.FuseGoto, 0, 7, 0)},
		{"const 4, const 4, ne 7, eq 8", 4, thing(0, 3, api.FuseNone, 0, 0, 0)},
		{"nop, eq 8", 2, alone(0, in(api.OpNop, 0))},
		{times(20, "nop") + "const 5, add", 22, thing(0, 21, api.FusePush, 0, 5, 0)},
		{times(15, "nop") + "const 5, add", 17, thing(0, 17, api.FuseOpConst, api.OpAdd, 5, 0)},
		{times(16, "nop") + "const 5, add", 18, thing(0, 17, api.FusePush, 0, 5, 0)},
		{"enter 8, const 5, leave 8", 3, alone(0, in(api.OpEnter, 8))},
		{"goto 3, nop", 2, alone(0, in(api.OpGoto, 3))},
		{"copy 256, nop", 2, alone(0, in(api.OpCopy, 256))},
	} {
		wantLongest(t, lines(t, c.source), 0, c.end, c.want)
	}
}

// P22.2: what is told is the greatest Len, and of those the least Kind, of what Fits answers.
func TestLongestIsOfFits(t *testing.T) {
	for round := range uint64(500) {
		code := newDice(round + 1000).someRow(20)
		for at := range uint32(20) {
			var best api.Fused
			for _, k := range everyKind() {
				if next, is := fuse.Fits(code, at, 20, k); is && next.Len > best.Len {
					best = next
				}
			}
			got, err := fuse.Longest(code, at, 20)
			if got != best || err != mayBe(code[at]) {
				t.Fatalf("Longest(%v, %d, 20): %v, %d, want %v", code, at, got, err, best)
			}
		}
	}
}

// alphabet gives instructions of which all short rows are made.
func alphabet() []api.Instr {
	return []api.Instr{
		in(api.OpNop, 0), in(api.OpConst, 5), in(api.OpDup, 0), in(api.OpPop, 0), in(api.OpNeg, 0), in(api.OpAdd, 0), in(api.OpDivi, 0), in(api.OpEq, 3),
		in(api.OpLocal, 5), in(api.OpLoad4, 0), in(api.OpStore4, 0), in(api.OpArg, 2), in(api.OpCall, 0), in(api.OpArg, 15),
	}
}

// P22.1, P22.2, P22.3: all rows of up to four instructions of the alphabet.
func TestAllShortRows(t *testing.T) {
	rows := [][]api.Instr{{}}
	for range 4 {
		var longer [][]api.Instr
		for _, row := range rows {
			for _, next := range alphabet() {
				longer = append(longer, append(slices.Clone(row), next))
			}
		}
		rows = longer
		for _, row := range rows {
			checkAll(t, row, 0, uint32(len(row)))
		}
	}
}

// P22.1, P22.2, P22.3: all middles of up to four instructions of a bump, and of what ends by a constant's shape.
func TestAllShortMiddles(t *testing.T) {
	some := []api.Instr{in(api.OpNop, 0), in(api.OpConst, 0), in(api.OpDup, 0), in(api.OpPop, 0), in(api.OpSub, 0), in(api.OpModi, 0), in(api.OpNe, 3), in(api.OpLoad4, 0)}
	head := lines(t, "local 4, local 4, load4")
	middles := [][]api.Instr{{}}
	seen := map[api.FuseKind]int{}
	for range 4 {
		var longer [][]api.Instr
		for _, middle := range middles {
			for _, next := range some {
				longer = append(longer, append(slices.Clone(middle), next))
			}
		}
		middles = longer
		for _, middle := range middles {
			code := slices.Concat(head, middle, lines(t, "mul, store4"))
			for _, at := range []uint32{0, 3} {
				seen[checkLongest(t, code, at, uint32(len(code))).Kind]++
			}
		}
	}
	if seen[api.FuseBump] < 20 || seen[api.FuseOpConst] < 20 {
		t.Errorf("%v", seen)
	}
}

// P22.1, P22.2, P22.3: scattered rows, from all of their places on and to all of them; each shape comes often.
func TestScatteredRows(t *testing.T) {
	seen := map[api.FuseKind]int{}
	for round := range uint64(60) {
		code := newDice(round).someRow(24)
		for at := range uint32(len(code)) {
			for end := at; end <= uint32(len(code))+1; end++ {
				seen[checkAll(t, code, at, end).Kind]++
			}
		}
	}
	for _, k := range everyKind() {
		if seen[k] < 30 {
			t.Errorf("kind %d was seen %d times", k, seen[k])
		}
	}
}

package flow_test

import (
	"slices"
	"testing"

	"playpen/api"
	"playpen/flow"
)

// cuts gives where the blocks of code begin.
func cuts(t *testing.T, g given) []uint32 {
	t.Helper()
	blocks, at, err := flow.Blocks(g.code, g.jumps)
	if at != 0 || err != api.OK {
		t.Fatalf("%v: %d, %d", g, at, err)
	}
	var begins []uint32
	for _, block := range blocks {
		begins = append(begins, block.Begin)
	}
	return begins
}

// wantCuts wants blocks to begin just there.
func wantCuts(t *testing.T, what string, g given, want ...uint32) {
	t.Helper()
	if begins := cuts(t, g); !slices.Equal(begins, want) {
		t.Errorf("%s: blocks begin at %v, want %v", what, begins, want)
	}
	check(t, g)
}

// P14.4: a block ends behind each of the kinds that say so, reached or not, and behind no other.
func TestBlocksBehindEachKind(t *testing.T) {
	for op := api.OpNop; op <= api.LastOp; op++ {
		takes, _, kind := rowBy(op)
		g := from(t, "0 enter 4, 1 const 1, 2 nop, 3 nop, 4 nop, 5 break")
		g.code[3] = in(op, 0)
		if takes == 2 {
			g.code[2] = in(api.OpConst, 1)
		}
		want := []uint32{0}
		switch kind {
		case api.KindEnter:
			g, want = from(t, "0 enter 4, 1 const 1, 2 break, 3 enter 4, 4 nop, 5 break"), []uint32{0, 3}
		case api.KindBranch, api.KindGoto, api.KindLeave:
			g.code[3].Arg, want = 4, []uint32{0, 4}
		case api.KindJump, api.KindCall, api.KindStop:
			want = []uint32{0, 4}
		}
		wantCuts(t, "reached", g, want...)
		// The same where the walk does not come to.
		far := g.cloned()
		far.code[1] = in(api.OpBreak, 0)
		wantCuts(t, "not reached", far, append([]uint32{0, 2}, want[1:]...)...)
	}
}

// P14.4: where there is nothing behind the last instruction, nothing begins.
func TestBlocksAtTheEnd(t *testing.T) {
	for _, last := range []api.Instr{in(api.OpBreak, 0), in(api.OpLeave, 4), in(api.OpJump, 0), in(api.OpGoto, 1)} {
		g := from(t, "0 enter 4, 1 const 1, 2 nop").with(2, last)
		if last.Op == api.OpGoto {
			g.code[1] = in(api.OpNop, 0)
			wantBlocks(t, "a goto", g, []api.Block{{Begin: 0, End: 1, Next: []uint32{1}}, {Begin: 1, End: 3, Next: []uint32{1}}}, -1, 0)
			continue
		}
		wantBlocks(t, "an end", g, []api.Block{{Begin: 0, End: 3}}, -1)
	}
}

// P14.4: operands begin blocks, those of instructions that are not reached too.
func TestBlocksAtOperands(t *testing.T) {
	g := from(t, "0 enter 4, 1 nop, 2 nop, 3 break, 4 nop, 5 nop, 6 break")
	wantCuts(t, "no operand", g, 0, 4)
	wantCuts(t, "a goto that is not reached", g.with(5, in(api.OpGoto, 2)), 0, 2, 4, 6)
	wantCuts(t, "a branch that is not reached", g.with(5, in(api.OpEq, 1)), 0, 1, 4, 6)
	wantCuts(t, "to itself", g.with(5, in(api.OpGoto, 5)), 0, 4, 5, 6)
	wantCuts(t, "to the one behind", g.with(5, in(api.OpNe, 6)), 0, 4, 6)
	wantCuts(t, "two to one place", g.with(4, in(api.OpGoto, 2)).with(5, in(api.OpGoto, 2)), 0, 2, 4, 5, 6)
	// What stands as an operand of others is no place.
	wantCuts(t, "a const", g.with(1, in(api.OpConst, 2)), 0, 4)
	wantCuts(t, "a local", g.with(1, in(api.OpLocal, 2)), 0, 4)
	wantCuts(t, "an arg", from(t, "0 enter 4, 1 const 3, 2 arg 3, 3 nop, 4 break"), 0)
	wantCuts(t, "a leave", from(t, "0 enter 4, 1 const 3, 2 leave 4, 3 nop, 4 nop, 5 break"), 0, 3)
}

// P14.4: all jumps begin blocks, in procedures without a jump too.
func TestBlocksAtJumps(t *testing.T) {
	g := from(t, "0 enter 4, 1 nop, 2 nop, 3 break, 4 enter 4, 5 nop, 6 nop, 7 break")
	wantCuts(t, "none", g, 0, 4)
	wantCuts(t, "some", g.jumping(2, 7), 0, 2, 4, 7)
	wantCuts(t, "all", g.jumping(1, 2, 3, 5, 6, 7), 0, 1, 2, 3, 4, 5, 6, 7)
	wantBlocks(t, "what goes on into a target", g.jumping(2, 7), []api.Block{
		{Begin: 0, End: 2, Next: []uint32{2}}, {Begin: 2, End: 4},
		{Begin: 4, End: 7, Next: []uint32{7}}, {Begin: 7, End: 8},
	}, -1, 0, -1, 2)
}

// P14.4: depths and Next of blocks, reached or not.
func TestBlocksTell(t *testing.T) {
	wantBlocks(t, "mixed", mixed(t), []api.Block{
		{Begin: 0, End: 1, Next: []uint32{1}},
		{Begin: 1, End: 4, Next: []uint32{4, 6}},
		{Begin: 4, End: 5, Next: []uint32{1}},
		{Begin: 5, End: 6, Depth: -1},
		{Begin: 6, End: 8, Next: []uint32{8}},
		{Begin: 8, End: 9, Depth: 1, Next: []uint32{1, 6}},
		{Begin: 9, End: 10, Depth: -1},
		{Begin: 10, End: 11, Next: []uint32{11}},
		{Begin: 11, End: 13, Next: []uint32{11, 13}},
		{Begin: 13, End: 14},
	}, -1, 0, 1, -1, 1, 4, -1, -1, 7, 8)
	// A block that is not reached tells its Next too; they may be reached.
	wantBlocks(t, "not reached, with Next", from(t, "0 enter 4, 1 const 1, 2 goto 6, 3 const 1, 4 lti 6, 5 goto 3, 6 leave 4"), []api.Block{
		{Begin: 0, End: 3, Next: []uint32{6}},
		{Begin: 3, End: 5, Depth: -1, Next: []uint32{5, 6}},
		{Begin: 5, End: 6, Depth: -1, Next: []uint32{3}},
		{Begin: 6, End: 7, Depth: 1},
	}, -1, -1, -1, 0)
	wantBlocks(t, "deep", from(t, "enter 4, "+times(63, "const 1")+"call, dup, break"), []api.Block{
		{Begin: 0, End: 65, Next: []uint32{65}}, {Begin: 65, End: 67, Depth: 63},
	}, -1, 0)
}

// P14.4: code of the most instructions, each of them a block.
func TestMostBlocks(t *testing.T) {
	g := given{code: []api.Instr{in(api.OpEnter, 4)}}
	for at := uint32(1); at < api.MaxInstrs; at++ {
		g.code = append(g.code, in(api.OpGoto, min(at+1, api.MaxInstrs-1)))
	}
	blocks, at, err := flow.Blocks(g.code, indices(api.MaxInstrs)[1:])
	if len(blocks) != api.MaxInstrs || at != 0 || err != api.OK {
		t.Fatalf("%d blocks, %d, %d", len(blocks), at, err)
	}
	for b, block := range blocks {
		next := uint32(min(b+1, api.MaxInstrs-1))
		if !sameBlock(block, api.Block{Begin: uint32(b), End: uint32(b + 1), Next: []uint32{next}}) {
			t.Fatalf("block %d: %v", b, block)
		}
	}
}

// P14.4: many jumps that all have many targets, each with a list of its own.
func TestBlocksOfManyJumps(t *testing.T) {
	const pairs = 1000
	g := crowded(t, pairs, "const 1, jump, break")
	blocks, at, err := flow.Blocks(g.code, g.jumps)
	if len(blocks) != pairs+3 || at != 0 || err != api.OK {
		t.Fatalf("%d blocks, %d, %d", len(blocks), at, err)
	}
	for b := 1; b <= pairs+1; b++ {
		if !slices.Equal(blocks[b].Next, g.jumps) || blocks[b].Begin != uint32(2*b-1) {
			t.Fatalf("block %d: %d, %d Next", b, blocks[b].Begin, len(blocks[b].Next))
		}
		clear(blocks[b].Next[:cap(blocks[b].Next)])
	}
}

package flow_test

import (
	"testing"

	"playpen/api"
	"playpen/flow"
)

// P14.5: ways that part and meet again.
func TestHeadsWhereWaysMeet(t *testing.T) {
	g := from(t, "0 enter 4, 1 const 1, 2 const 1, 3 eq 6, 4 nop, 5 goto 8, 6 nop, 7 goto 8, 8 break")
	wantBlocks(t, "a fork", g, []api.Block{
		{Begin: 0, End: 4, Next: []uint32{4, 6}},
		{Begin: 4, End: 6, Next: []uint32{8}},
		{Begin: 6, End: 8, Next: []uint32{8}},
		{Begin: 8, End: 9},
	}, -1, 0, 0, 0)
	wantHeads(t, "one way that does not come to the end", g.with(5, in(api.OpBreak, 0)), -1, 0, 0, 2)
	wantHeads(t, "one way that stays where it is", g.with(5, in(api.OpGoto, 4)), -1, 0, 0, 2)
	// Two forks, one within the other.
	nested := from(t, "0 enter 4, 1 const 1, 2 const 1, 3 eq 12, 4 const 1, 5 const 1, 6 ne 9, 7 nop, 8 goto 10, 9 nop, 10 nop, 11 goto 13, 12 nop, 13 break")
	wantCuts(t, "nested", nested, 0, 4, 7, 9, 10, 12, 13)
	wantHeads(t, "nested", nested, -1, 0, 1, 1, 1, 0, 0)
}

// P14.5: loops, of which one end or both lead out, and one within the other.
func TestHeadsOfLoops(t *testing.T) {
	g := from(t, "0 enter 4, 1 nop, 2 const 1, 3 const 1, 4 eq 6, 5 goto 1, 6 break")
	wantCuts(t, "a loop", g, 0, 1, 5, 6)
	wantHeads(t, "a loop", g, -1, 0, 1, 1)
	nested := from(t, "0 enter 4, 1 nop, 2 nop, 3 const 1, 4 const 1, 5 eq 2, 6 const 1, 7 const 1, 8 ne 1, 9 break")
	wantCuts(t, "nested", nested, 0, 1, 2, 6, 9)
	wantHeads(t, "nested", nested, -1, 0, 1, 2, 3)
	// Two ways lead into the loop, at different places: only what lies ahead of both is a head.
	twice := from(t, "0 enter 4, 1 const 1, 2 const 1, 3 eq 6, 4 nop, 5 goto 6, 6 nop, 7 goto 4")
	wantCuts(t, "two ways in", twice, 0, 4, 6)
	wantHeads(t, "two ways in", twice, -1, 0, 0)
	wantHeads(t, "itself", from(t, "0 enter 4, 1 const 1, 2 goto 2"), -1, 0)
}

// P14.5: a head may be a later block than the one that it is the head of.
func TestHeadsThatLieBehind(t *testing.T) {
	g := from(t, "0 enter 4, 1 goto 6, 2 nop, 3 break, 4 nop, 5 goto 2, 6 nop, 7 goto 4")
	wantCuts(t, "back and back", g, 0, 2, 4, 6)
	wantHeads(t, "back and back", g, -1, 2, 3, 0)
}

// P14.5: what lies only on ways that are not reached counts for nothing.
func TestHeadsOfWhatIsNotReached(t *testing.T) {
	g := from(t, "0 enter 4, 1 goto 4, 2 nop, 3 goto 5, 4 nop, 5 break, 6 nop, 7 goto 5")
	wantCuts(t, "ways from nowhere", g, 0, 2, 4, 5, 6)
	wantHeads(t, "ways from nowhere", g, -1, -1, 0, 2, -1)
	wantHeads(t, "a loop that is not reached", from(t, "0 enter 4, 1 break, 2 nop, 3 goto 2"), -1, -1)
	wantHeads(t, "a jump that is not reached", from(t, "0 enter 4, 1 nop, 2 nop, 3 break, 4 jump", 1, 2), -1, 0, 1, -1)
}

// P14.5: jumps lead to all targets of their procedure.
func TestHeadsBehindJumps(t *testing.T) {
	g := from(t, "0 enter 4, 1 const 1, 2 jump, 3 nop, 4 break, 5 nop, 6 break", 3, 5)
	wantHeads(t, "a jump", g, -1, 0, 0)
	two := from(t, "0 enter 4, 1 const 1, 2 dup, 3 dup, 4 eq 7, 5 nop, 6 jump, 7 nop, 8 jump, 9 break, 10 break", 9, 10)
	wantCuts(t, "two jumps", two, 0, 5, 7, 9, 10)
	wantHeads(t, "two jumps", two, -1, 0, 0, 0, 0)
	wantHeads(t, "one of them", two.with(6, in(api.OpBreak, 0)), -1, 0, 0, 2, 2)
	wantHeads(t, "one of them, and a way on", two.with(6, in(api.OpGoto, 8)), -1, 0, 0, 0, 3, 3)
	wantHeads(t, "a jump back", from(t, "0 enter 4, 1 nop, 2 const 1, 3 jump, 4 break", 1, 4), -1, 0, 1)
	wantHeads(t, "no targets", from(t, "0 enter 4, 1 const 1, 2 jump, 3 break"), -1, -1)
	wantHeads(t, "targets of another procedure", from(t, "0 enter 4, 1 const 1, 2 jump, 3 enter 4, 4 const 1, 5 jump, 6 break", 6), -1, -1, 1)
	wantHeads(t, "one target behind the other", from(t, "0 enter 4, 1 const 1, 2 jump, 3 nop, 4 nop, 5 break", 3, 4, 5), -1, 0, 0, 0)
}

// P14.5: each procedure for itself; numbers count all blocks.
func TestHeadsOfProcedures(t *testing.T) {
	one := "const 0, call, pop, break"
	wantHeads(t, "three", from(t, "enter 4, "+one+", enter 4, "+one+", enter 8, "+one), -1, 0, -1, 2, -1, 4)
}

// manyHeads gives the heads of long code that has no fault.
func manyHeads(t *testing.T, g given) []int {
	t.Helper()
	heads, at, err := flow.Heads(g.code, g.jumps)
	if at != 0 || err != api.OK {
		t.Fatalf("%d, %d", at, err)
	}
	return heads
}

// wantRule wants so many heads, each as a rule tells.
func wantRule(t *testing.T, what string, heads []int, count int, rule func(b int) int) {
	t.Helper()
	if len(heads) != count {
		t.Fatalf("%s: %d heads, want %d", what, len(heads), count)
	}
	for b, head := range heads {
		if head != rule(b) {
			t.Fatalf("%s: block %d has the head %d, want %d", what, b, head, rule(b))
		}
	}
}

// P14.5: code of the most instructions: a row forward, a ring, and a row back.
func TestHeadsOfRows(t *testing.T) {
	const most = api.MaxInstrs
	row, back := given{code: []api.Instr{in(api.OpEnter, 4)}}, given{code: []api.Instr{in(api.OpEnter, 4), in(api.OpGoto, most-1)}}
	for at := uint32(1); at < most; at++ {
		row.code = append(row.code, in(api.OpGoto, min(at+1, most-1)))
	}
	for at := uint32(2); at < most; at++ {
		back.code = append(back.code, in(api.OpGoto, at-1))
	}
	row.jumps = []uint32{1}
	wantRule(t, "forward", manyHeads(t, row), most, func(b int) int { return b - 1 })
	wantRule(t, "forward, and back from the end", manyHeads(t, row.with(most-1, in(api.OpGoto, 1))), most, func(b int) int { return b - 1 })
	// The goto at 1 is a target of the one at 2, so it is a block of its own; from it the row goes back from the last one.
	wantRule(t, "back", manyHeads(t, back), most, func(b int) int {
		switch b {
		case 0:
			return -1
		case 1:
			return 0
		case most - 1:
			return 1
		}
		return b + 1
	})
}

// P14.5: long rows of branches that all lead to the same place, and of loops within loops.
func TestHeadsOfManyBranches(t *testing.T) {
	const count = 5000
	var out, loops given
	out.code = []api.Instr{in(api.OpEnter, 4)}
	for range count {
		out.code = append(out.code, in(api.OpConst, 1), in(api.OpConst, 1), in(api.OpEq, 3*count+2))
	}
	out.code = append(out.code, in(api.OpGoto, 3*count+1), in(api.OpBreak, 0))
	// Blocks: one for each branch, the goto, the break.
	wantRule(t, "all to the end", manyHeads(t, out), count+2, func(b int) int {
		if b == count+1 {
			return 0
		}
		return b - 1
	})
	loops.code = []api.Instr{in(api.OpEnter, 4)}
	for range count {
		loops.code = append(loops.code, in(api.OpNop, 0))
	}
	for i := range uint32(count / 2) {
		loops.code = append(loops.code, in(api.OpConst, 1), in(api.OpConst, 1), in(api.OpEq, count-i))
	}
	loops.code = append(loops.code, in(api.OpBreak, 0))
	// Blocks: the enter with half of the nops, the other nops one by one, the last of them with the first branch, the other branches, the break.
	wantRule(t, "loops within loops", manyHeads(t, loops), count+1, func(b int) int { return b - 1 })
}

// P14.5: the most jumps with the most targets.
func TestHeadsOfManyJumps(t *testing.T) {
	const pairs = api.MaxInstrs/2 - 2
	g := crowded(t, pairs, "const 1, jump, break")
	wantRule(t, "many jumps", manyHeads(t, g), pairs+3, func(b int) int {
		switch b {
		case 0, pairs + 2:
			return -1
		case 1:
			return 0
		}
		return 1
	})
}

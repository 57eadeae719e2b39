package cell_test

import (
	"slices"
	"testing"

	"playpen/api"
	"playpen/cell"
	"playpen/verify"
)

// P23.2: the cell of a thing that goes elsewhere has the number of the cell that begins there, ahead, behind or itself.
func TestTargets(t *testing.T) {
	wantCells(t, "a goto ahead", module(t, "0 enter 4, 1 goto 4, 2 nop, 3 nop, 4 break"),
		alone(0, api.OpEnter, 4, no), alone(1, api.OpGoto, 4, 3), made(2, 2, api.FuseNone, 0, 0, 0, no), alone(4, api.OpBreak, 0, no))
	wantCells(t, "a goto back", module(t, "0 enter 4, 1 nop, 2 nop, 3 local 4, 4 pop, 5 goto 3"),
		alone(0, api.OpEnter, 4, no), made(1, 2, api.FuseNone, 0, 0, 0, no), alone(3, api.OpLocal, 4, no), alone(4, api.OpPop, 0, no), alone(5, api.OpGoto, 3, 2))
	wantCells(t, "a goto of itself", module(t, "0 enter 4, 1 nop, 2 nop, 3 goto 3"),
		alone(0, api.OpEnter, 4, no), made(1, 2, api.FuseNone, 0, 0, 0, no), alone(3, api.OpGoto, 3, 2))
	wantCells(t, "a comparison", module(t, "0 enter 4, 1 const 7, 2 local 4, 3 lti 1, 4 break"),
		alone(0, api.OpEnter, 4, no), alone(1, api.OpConst, 7, no), alone(2, api.OpLocal, 4, no), alone(3, api.OpLti, 1, 1), alone(4, api.OpBreak, 0, no))
	wantCells(t, "one with a constant", module(t, "0 enter 4, 1 nop, 2 nop, 3 local 4, 4 const 9, 5 neg, 6 gef 3, 7 break"),
		alone(0, api.OpEnter, 4, no), made(1, 2, api.FuseNone, 0, 0, 0, no), alone(3, api.OpLocal, 4, no), made(4, 3, api.FuseBranchConst, api.OpGef, 0xFFFFFFF7, 3, 2), alone(7, api.OpBreak, 0, no))
	wantCells(t, "one with a local word", module(t, "0 enter 4, 1 const 9, 2 local 1, 3 load4, 4 gtu 6, 5 break, 6 break"),
		alone(0, api.OpEnter, 4, no), alone(1, api.OpConst, 9, no), made(2, 3, api.FuseBranchLocal, api.OpGtu, 1, 6, 4), alone(5, api.OpBreak, 0, no), alone(6, api.OpBreak, 0, no))
	wantCells(t, "one that holds", module(t, "0 enter 4, 1 const 2, 2 const 1, 3 gti 1, 4 break"),
		alone(0, api.OpEnter, 4, no), made(1, 3, api.FuseGoto, 0, 1, 0, 1), alone(4, api.OpBreak, 0, no))
}

// P23.2: other things have no target, though their operands are numbers of instructions too.
func TestNoTargets(t *testing.T) {
	wantCells(t, "one that does not hold", module(t, "0 enter 4, 1 const 1, 2 const 2, 3 gti 1, 4 break"),
		alone(0, api.OpEnter, 4, no), made(1, 3, api.FuseNone, 0, 0, 0, no), alone(4, api.OpBreak, 0, no))
	wantCells(t, "a jump", module(t, "0 enter 4, 1 const 4, 2 jump, 3 break, 4 break", 4),
		alone(0, api.OpEnter, 4, no), alone(1, api.OpConst, 4, no), alone(2, api.OpJump, 0, no), alone(3, api.OpBreak, 0, no), alone(4, api.OpBreak, 0, no))
	wantCells(t, "calls", module(t, "0 enter 4, 1 const 0, 2 call, 3 call, 4 leave 4"),
		alone(0, api.OpEnter, 4, no), made(1, 2, api.FuseCallConst, 0, 0, 0, no), alone(3, api.OpCall, 0, no), alone(4, api.OpLeave, 4, no))
	wantCells(t, "words", module(t, "0 enter 4, 1 const 1, 2 local 1, 3 const 1, 4 nop, 5 break", 1, 2, 3, 5),
		alone(0, api.OpEnter, 4, no), alone(1, api.OpConst, 1, no), alone(2, api.OpLocal, 1, no), made(3, 2, api.FusePush, 0, 1, 0, no), alone(5, api.OpBreak, 0, no))
	wantCells(t, "shapes", module(t, `0 enter 4, 1 const 1, 2 arg 0, 3 const 1, 4 load4, 5 const 1, 6 add, 7 const 1, 8 store4, 9 local 1, 10 arg 1,
		11 local 1, 12 load4, 13 const 1, 14 local 1, 15 load4, 16 sub, 17 local 1, 18 local 1, 19 load4, 20 const 1, 21 add, 22 store4, 23 pop, 24 pop, 25 goto 1`),
		alone(0, api.OpEnter, 4, no), made(1, 2, api.FuseArgConst, 0, 1, 0, no), made(3, 2, api.FuseLoadConst, api.OpLoad4, 1, 0, no),
		made(5, 2, api.FuseOpConst, api.OpAdd, 1, 0, no), made(7, 2, api.FuseStoreConst, api.OpStore4, 1, 0, no), made(9, 2, api.FuseArgLocal, 0, 1, 1, no),
		made(11, 2, api.FuseLoadLocal, api.OpLoad4, 1, 0, no), alone(13, api.OpConst, 1, no), made(14, 3, api.FuseOpLocal, api.OpSub, 1, 0, no),
		made(17, 6, api.FuseBump, api.OpAdd, 1, 1, no), alone(23, api.OpPop, 0, no), alone(24, api.OpPop, 0, no), alone(25, api.OpGoto, 1, 1))
}

// P23.2: no cell goes on over a leader, of whatever kind, nor is it cut elsewhere.
func TestCellsEndAtLeaders(t *testing.T) {
	const source = "0 enter 4, 1 nop, 2 nop, 3 nop, 4 nop, 5 break"
	nops := func(at, length uint32) api.Cell { return made(at, length, api.FuseNone, 0, 0, 0, no) }
	first, last := alone(0, api.OpEnter, 4, no), alone(5, api.OpBreak, 0, no)
	wantCells(t, "no leader", module(t, source), first, nops(1, 4), last)
	wantCells(t, "a jump's target", module(t, source, 3), first, nops(1, 2), nops(3, 2), last)
	wantCells(t, "two of them", module(t, source, 2, 4), first, alone(1, api.OpNop, 0, no), nops(2, 2), alone(4, api.OpNop, 0, no), last)
	wantCells(t, "a goto's operand", module(t, "0 enter 4, 1 nop, 2 nop, 3 nop, 4 nop, 5 goto 3"), first, nops(1, 2), nops(3, 2), alone(5, api.OpGoto, 3, 2))
	wantCells(t, "one that is not reached", module(t, source+", 6 goto 3"), first, nops(1, 2), nops(3, 2), last, alone(6, api.OpGoto, 3, 2))
	wantCells(t, "a comparison's operand", module(t, source+", 6 eq 3, 7 break"), first, nops(1, 2), nops(3, 2), last, alone(6, api.OpEq, 3, 2), alone(7, api.OpBreak, 0, no))
	wantCells(t, "behind a call", module(t, "0 enter 4, 1 const 0, 2 call, 3 nop, 4 nop, 5 leave 4"), first, made(1, 2, api.FuseCallConst, 0, 0, 0, no), nops(3, 2), alone(5, api.OpLeave, 4, no))
	wantCells(t, "within what would be a bump", module(t, "0 enter 4, 1 local 4, 2 local 4, 3 load4, 4 const 1, 5 add, 6 store4, 7 const 1, 8 leave 4", 1, 8),
		first, made(1, 6, api.FuseBump, api.OpAdd, 4, 1, no), alone(7, api.OpConst, 1, no), alone(8, api.OpLeave, 4, no))
	wantCells(t, "within a bump", module(t, "0 enter 4, 1 local 4, 2 local 4, 3 load4, 4 const 1, 5 add, 6 store4, 7 const 1, 8 leave 4", 4),
		first, alone(1, api.OpLocal, 4, no), made(2, 2, api.FuseLoadLocal, api.OpLoad4, 4, 0, no), made(4, 2, api.FuseOpConst, api.OpAdd, 1, 0, no), alone(6, api.OpStore4, 0, no),
		alone(7, api.OpConst, 1, no), alone(8, api.OpLeave, 4, no))
}

// P23.2: cells go on behind what goes elsewhere, and what is not reached is put together as all else.
func TestCellsGoOn(t *testing.T) {
	wantCells(t, "not reached", module(t, "0 enter 4, 1 break, 2 const 1, 3 const 2, 4 add, 5 nop, 6 break"),
		alone(0, api.OpEnter, 4, no), alone(1, api.OpBreak, 0, no), made(2, 4, api.FusePush, 0, 3, 0, no), alone(6, api.OpBreak, 0, no))
	wantCells(t, "words that are not there", module(t, "0 enter 4, 1 break, 2 const 1, 3 add, 4 break"),
		alone(0, api.OpEnter, 4, no), alone(1, api.OpBreak, 0, no), made(2, 2, api.FuseOpConst, api.OpAdd, 1, 0, no), alone(4, api.OpBreak, 0, no))
	wantCells(t, "a goto that is not reached", module(t, "0 enter 4, 1 break, 2 const 1, 3 dup, 4 eq 1, 5 break"),
		alone(0, api.OpEnter, 4, no), alone(1, api.OpBreak, 0, no), made(2, 3, api.FuseGoto, 0, 1, 0, 1), alone(5, api.OpBreak, 0, no))
	wantCells(t, "a second procedure", module(t, "0 enter 4, 1 nop, 2 nop, 3 break, 4 enter 8, 5 goto 5"),
		alone(0, api.OpEnter, 4, no), made(1, 2, api.FuseNone, 0, 0, 0, no), alone(3, api.OpBreak, 0, no), alone(4, api.OpEnter, 8, no), alone(5, api.OpGoto, 5, 4))
}

// P23.2: Begins has a number for each instruction.
func TestBegins(t *testing.T) {
	x := checkTranslate(t, module(t, "0 enter 4, 1 nop, 2 nop, 3 local 4, 4 const 1, 5 arg 0, 6 break", 3))
	if want := []uint32{0, 1, no, 2, 3, no, 4}; !slices.Equal(x.Begins, want) {
		t.Errorf("%v, want %v", x.Begins, want)
	}
	x = checkTranslate(t, module(t, "0 enter 4, 1 break"))
	if want := []uint32{0, 1}; !slices.Equal(x.Begins, want) {
		t.Errorf("%v, want %v", x.Begins, want)
	}
}

// P23.2: code of the most instructions: one thing nearly, as many as there can be, words that stay, as many leaders as there can be.
func TestMostInstructions(t *testing.T) {
	whole := slices.Repeat([]api.Instr{in(api.OpNop, 0)}, api.MaxInstrs)
	whole[0], whole[api.MaxInstrs-1] = in(api.OpEnter, 4), in(api.OpGoto, api.MaxInstrs-1)
	wantMost(t, "one thing", api.Image{Code: whole}, 3)

	pairs := slices.Clone(whole)
	for at := uint32(1); at < api.MaxInstrs-1; at += 2 {
		pairs[at], pairs[at+1] = in(api.OpLocal, at), in(api.OpArg, 0)
	}
	wantMost(t, "things of two", api.Image{Code: pairs}, 2+(api.MaxInstrs-2)/2)

	open := slices.Clone(whole)
	for at := uint32(1); at <= 63; at++ {
		open[at] = in(api.OpConst, at)
	}
	for at := uint32(64); at < api.MaxInstrs-2; at += 2 {
		open[at], open[at+1] = in(api.OpConst, at), in(api.OpPop, 0)
	}
	wantMost(t, "words that stay", api.Image{Code: open}, 1+63+1)

	gotos := slices.Clone(whole)
	for at := uint32(1); at < api.MaxInstrs-1; at++ {
		gotos[at] = in(api.OpGoto, api.MaxInstrs-at)
	}
	wantMost(t, "gotos", api.Image{Code: gotos}, api.MaxInstrs)

	all := make([]uint32, api.MaxInstrs)
	for i := range all {
		all[i] = uint32(i)
	}
	wantMost(t, "all leaders", api.Image{Code: whole, Jumps: all[1:]}, api.MaxInstrs)
}

// wantMost wants Translate to make so many cells of long code, that Check takes; the book would take too long for it.
func wantMost(t testing.TB, what string, im api.Image, count int) {
	t.Helper()
	im.Stack = 64
	m := mustTake(t, im)
	x, err := cell.Translate(m)
	if err != api.OK || len(x.Cells) != count || len(x.Begins) != len(im.Code) {
		t.Fatalf("%s: %d cells, %d, want %d", what, len(x.Cells), err, count)
	}
	wantNumbers(t, what, x)
	if place, err := cell.Check(m, x); place != 0 || err != api.OK {
		t.Errorf("%s: %d, %d", what, place, err)
	}
	last := uint32(len(im.Code) - 1)
	for _, index := range []uint32{0, 1, last / 2, last, last + 1} {
		checkWhere(t, x, index)
	}
}

// wantNumbers wants the numbers of threaded code to be as they must be.
func wantNumbers(t testing.TB, what string, x api.Threaded) {
	t.Helper()
	begins := slices.Repeat([]uint32{no}, len(x.Begins))
	for i, c := range x.Cells {
		begins[c.Fused.At] = uint32(i)
	}
	if !slices.Equal(begins, x.Begins) {
		t.Errorf("%s: other begins", what)
	}
	for i, c := range x.Cells {
		want := uint32(no)
		if at := targetBy(c.Fused); at >= 0 {
			want = begins[at]
		}
		if c.To != want {
			t.Errorf("%s: cell %d: %v", what, i, c)
		}
	}
}

// P23.2: scattered modules; each kind comes often, and each that has a target too.
func TestScatteredModules(t *testing.T) {
	seen := map[api.FuseKind]int{}
	aimed := map[api.FuseKind]int{}
	for round := range uint64(2000) {
		m := newDice(round+10000).someModule(t, 25)
		for _, c := range checkTranslate(t, m).Cells {
			seen[c.Fused.Kind]++
			if c.To != no {
				aimed[c.Fused.Kind]++
			}
		}
	}
	for k := api.FuseOne; k <= api.FuseBump; k++ {
		if seen[k] < 200 {
			t.Errorf("kind %d was seen %d times", k, seen[k])
		}
	}
	for _, k := range []api.FuseKind{api.FuseOne, api.FuseGoto, api.FuseBranchConst, api.FuseBranchLocal} {
		if aimed[k] < 200 {
			t.Errorf("kind %d went elsewhere %d times", k, aimed[k])
		}
	}
}

// P23.2: the same for modules that were loaded, and for one that is taken from its own image.
func TestTranslateAgain(t *testing.T) {
	for round := range uint64(100) {
		m := newDice(round+20000).someModule(t, 20)
		want := checkTranslate(t, m)
		again, _, err := verify.Take(m.Image())
		if err != api.OK || !sameThreaded(checkTranslate(t, again), want) || !sameThreaded(checkTranslate(t, m), want) {
			t.Fatalf("%v: another answer, %d", m.Image().Code, err)
		}
	}
}

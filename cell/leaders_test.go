package cell_test

import (
	"slices"
	"testing"

	"playpen/api"
	"playpen/cell"
)

// P23.1 to P23.3, R1, R2: of a module that is none nothing is told.
func TestNoModule(t *testing.T) {
	for what, m := range unmade(t) {
		if list, err := cell.Leaders(m); len(list) != 0 || err != api.ErrNil {
			t.Errorf("%s: %v, %d", what, list, err)
		}
		if x, err := cell.Translate(m); len(x.Cells) != 0 || len(x.Begins) != 0 || err != api.ErrNil {
			t.Errorf("%s: %v, %d", what, x, err)
		}
		for _, x := range []api.Threaded{{}, exampleCells(), {Cells: []api.Cell{{}, alone(1<<32-1, 99, 0, 0)}, Begins: []uint32{7}}} {
			if place, err := cell.Check(m, x); place != 0 || err != api.ErrNil {
				t.Errorf("%s: %d, %d", what, place, err)
			}
		}
	}
}

// P23.1: each kind of leader by itself.
func TestLeadersOfEachKind(t *testing.T) {
	wantLeaders(t, "the least", module(t, "enter 4, break"), 0)
	wantLeaders(t, "procedures", module(t, "0 enter 4, 1 nop, 2 break, 3 enter 8, 4 break, 5 enter 4, 6 nop, 7 break"), 0, 3, 5)
	wantLeaders(t, "a goto's operand", module(t, "0 enter 4, 1 nop, 2 nop, 3 nop, 4 goto 2"), 0, 2)
	wantLeaders(t, "a goto of itself", module(t, "0 enter 4, 1 nop, 2 goto 2"), 0, 2)
	wantLeaders(t, "a goto ahead", module(t, "0 enter 4, 1 goto 3, 2 nop, 3 nop, 4 break"), 0, 3)
	wantLeaders(t, "jumps", module(t, "0 enter 4, 1 nop, 2 nop, 3 nop, 4 nop, 5 break", 2, 3, 5), 0, 2, 3, 5)
	wantLeaders(t, "behind a call", module(t, "0 enter 4, 1 const 0, 2 call, 3 nop, 4 leave 4"), 0, 3)
	wantLeaders(t, "behind calls of what is no procedure", module(t, "0 enter 4, 1 const 3, 2 call, 3 call, 4 nop, 5 leave 4"), 0, 3, 4)
	for _, op := range comparisons() {
		m := mustTake(t, api.Image{Code: slices.Concat(lines(t, "0 enter 4, 1 nop, 2 const 1, 3 local 4"), []api.Instr{in(op, 6)}, lines(t, "nop, nop, break")), Stack: 128})
		wantLeaders(t, "a comparison's operand", m, 0, 6)
	}
}

// P23.1: what is not reached has its leaders too.
func TestLeadersNotReached(t *testing.T) {
	wantLeaders(t, "a goto", module(t, "0 enter 4, 1 break, 2 nop, 3 nop, 4 goto 3"), 0, 3)
	wantLeaders(t, "a goto into what is reached", module(t, "0 enter 4, 1 nop, 2 nop, 3 break, 4 goto 2"), 0, 2)
	wantLeaders(t, "a comparison", module(t, "0 enter 4, 1 break, 2 eqf 1, 3 break"), 0, 1)
	wantLeaders(t, "a comparison that cannot hold", module(t, "0 enter 4, 1 const 1, 2 const 2, 3 eq 5, 4 nop, 5 break"), 0, 5)
	wantLeaders(t, "a call", module(t, "0 enter 4, 1 break, 2 call, 3 nop, 4 break"), 0, 3)
	wantLeaders(t, "jumps without a jump", module(t, "0 enter 4, 1 break, 2 nop, 3 break", 2), 0, 2)
	wantLeaders(t, "a procedure that nobody calls", module(t, "0 enter 4, 1 break, 2 enter 4, 3 break"), 0, 2)
}

// P23.1: what leads a block of chapter 14 and is none of these leads nothing here.
func TestNoLeaders(t *testing.T) {
	wantLeaders(t, "behind a comparison", module(t, "0 enter 4, 1 const 1, 2 const 2, 3 lti 5, 4 nop, 5 break"), 0, 5)
	wantLeaders(t, "behind a goto", module(t, "0 enter 4, 1 goto 3, 2 nop, 3 break"), 0, 3)
	wantLeaders(t, "behind a jump", module(t, "0 enter 4, 1 const 4, 2 jump, 3 nop, 4 break", 4), 0, 4)
	wantLeaders(t, "behind a leave", module(t, "0 enter 4, 1 const 1, 2 leave 4, 3 nop, 4 break"), 0)
	wantLeaders(t, "behind a break", module(t, "0 enter 4, 1 break, 2 nop, 3 break"), 0)
	wantLeaders(t, "behind an enter", module(t, "0 enter 4, 1 nop, 2 break"), 0)
	wantLeaders(t, "what constants and others name", module(t, "0 enter 4, 1 const 2, 2 local 3, 3 arg 4, 4 pop, 5 nop, 6 break"), 0)
}

// P23.1: an instruction that is a leader for many reasons is told once.
func TestLeadersOnce(t *testing.T) {
	wantLeaders(t, "many reasons", module(t, `0 enter 4, 1 const 0, 2 call, 3 nop, 4 pop, 5 goto 1, 6 goto 3, 7 goto 3, 8 eq 3, 9 goto 1, 10 break,
		11 enter 4, 12 goto 12`, 1, 3, 12), 0, 1, 3, 11, 12)
	wantLeaders(t, "all", module(t, "0 enter 4, 1 nop, 2 nop, 3 break, 4 enter 4, 5 break", 1, 2, 3, 5), 0, 1, 2, 3, 4, 5)
}

// P23.1: code of the most instructions: one leader, all leaders, as many procedures as there can be.
func TestLeadersOfMostInstructions(t *testing.T) {
	code := slices.Repeat([]api.Instr{in(api.OpNop, 0)}, api.MaxInstrs)
	code[0], code[api.MaxInstrs-1] = in(api.OpEnter, 4), in(api.OpBreak, 0)
	wantLeaders(t, "one", mustTake(t, api.Image{Code: code, Stack: 64}), 0)

	all := make([]uint32, api.MaxInstrs)
	for i := range all {
		all[i] = uint32(i)
	}
	wantLeaders(t, "all", mustTake(t, api.Image{Code: code, Jumps: all[1:], Stack: 64}), all...)

	code[api.MaxInstrs-1] = in(api.OpGoto, api.MaxInstrs-1)
	wantLeaders(t, "the last one", mustTake(t, api.Image{Code: code, Stack: 64}), 0, api.MaxInstrs-1)

	var even []uint32
	for i := uint32(0); i < api.MaxInstrs; i += 2 {
		even = append(even, i)
	}
	code = slices.Repeat([]api.Instr{in(api.OpEnter, 4), in(api.OpBreak, 0)}, api.MaxInstrs/2)
	wantLeaders(t, "procedures", mustTake(t, api.Image{Code: code, Stack: 64}), even...)
}

// P23.1: scattered modules.
func TestScatteredLeaders(t *testing.T) {
	count := 0
	for round := range uint64(3000) {
		count += len(checkLeaders(t, newDice(round).someModule(t, 30)))
	}
	if count < 10000 {
		t.Errorf("%d leaders", count)
	}
}

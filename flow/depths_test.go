package flow_test

import (
	"slices"
	"testing"

	"playpen/api"
)

// The chapter's example 1, its depths.
func TestExamplePlain(t *testing.T) {
	g := from(t, "0 enter 4, 1 const 7, 2 leave 4")
	wantDepths(t, "plain", g, []int{0, 0, 1}, 1)
	wantBlocks(t, "plain", g, []api.Block{{Begin: 0, End: 3, Depth: 0}}, -1)
}

// The chapter's example 2.
func TestExampleFaults(t *testing.T) {
	wantFault(t, "no word", from(t, "0 enter 4, 1 leave 4"), 1, api.ErrUnder)
	wantFault(t, "two words", from(t, "0 enter 4, 1 const 1, 2 const 2, 3 leave 4"), 3, api.ErrLeave)
}

// The chapter's example 3.
func TestExampleBranch(t *testing.T) {
	g := from(t, "0 enter 4, 1 const 1, 2 const 2, 3 eq 5, 4 goto 5, 5 const 0, 6 leave 4")
	wantDepths(t, "a branch", g, []int{0, 0, 1, 2, 0, 0, 1}, 2)
	wantBlocks(t, "a branch", g, []api.Block{
		{Begin: 0, End: 4, Next: []uint32{4, 5}},
		{Begin: 4, End: 5, Next: []uint32{5}},
		{Begin: 5, End: 7},
	}, -1, 0, 0)
}

// The chapter's example 4.
func TestExampleBack(t *testing.T) {
	wantDepths(t, "a way back", from(t, "0 enter 4, 1 const 1, 2 const 2, 3 eq 1, 4 const 0, 5 leave 4"), []int{0, 0, 1, 2, 0, 1}, 2)
	wantFault(t, "with const 9", from(t, "0 enter 4, 1 const 1, 2 const 2, 3 const 9, 4 eq 1, 5 const 0, 6 leave 4"), 4, api.ErrMeet)
}

// The chapter's example 5.
func TestExampleForEver(t *testing.T) {
	g := from(t, "0 enter 4, 1 goto 1")
	wantDepths(t, "for ever", g, []int{0, 0}, 0)
	wantBlocks(t, "for ever", g, []api.Block{{Begin: 0, End: 1, Next: []uint32{1}}, {Begin: 1, End: 2, Next: []uint32{1}}}, -1, 0)
}

// The chapter's example 6.
func TestExampleJump(t *testing.T) {
	g := from(t, "0 enter 4, 1 const 5, 2 jump, 3 const 0, 4 leave 4, 5 break", 3)
	wantDepths(t, "a jump", g, []int{0, 0, 1, 0, 1, -1}, 1)
	wantBlocks(t, "a jump", g, []api.Block{
		{Begin: 0, End: 3, Next: []uint32{3}},
		{Begin: 3, End: 5},
		{Begin: 5, End: 6, Depth: -1},
	}, -1, 0, -1)
	wantDepths(t, "no jumps", g.jumping(), []int{0, 0, 1, -1, -1, -1}, 1)
	wantBlocks(t, "no jumps", g.jumping(), []api.Block{
		{Begin: 0, End: 3},
		{Begin: 3, End: 5, Depth: -1},
		{Begin: 5, End: 6, Depth: -1},
	}, -1, -1, -1)
}

// The chapter's example 7.
func TestExampleOver(t *testing.T) {
	wantFault(t, "65 words", from(t, "enter 4, "+times(65, "const 1")+times(64, "pop")+"leave 4"), 65, api.ErrOver)
}

// The chapter's example 8.
func TestExampleCall(t *testing.T) {
	g := from(t, "0 enter 4, 1 const 0, 2 call, 3 leave 4")
	wantDepths(t, "a call", g, []int{0, 0, 1, 1}, 1)
	wantBlocks(t, "a call", g, []api.Block{{Begin: 0, End: 3, Next: []uint32{3}}, {Begin: 3, End: 4, Depth: 1}}, -1, 0)
}

// P14.1: what each operation takes and leaves, and at which depths it lacks a word or gives too many.
func TestEveryOperation(t *testing.T) {
	for op := api.OpNop; op <= api.LastOp; op++ {
		takes, gives, kind := rowBy(op)
		switch kind {
		case api.KindPlain, api.KindCall, api.KindBranch:
		default:
			continue
		}
		for _, depth := range []int{0, 1, 2, 3, 63, 64} {
			g := from(t, "enter 4, "+times(depth, "const 1")+"nop, break")
			at := depth + 1
			g.code[at] = in(op, 0)
			if kind == api.KindBranch {
				g.code[at].Arg = uint32(at + 1)
			}
			switch rest := depth - takes + gives; {
			case depth < takes:
				wantFault(t, "too few", g, at, api.ErrUnder)
			case rest > 64:
				wantFault(t, "too many", g, at, api.ErrOver)
			default:
				depths := []int{0}
				for i := range depth {
					depths = append(depths, i)
				}
				wantDepths(t, "an operation", g, append(depths, depth, rest), max(depth, rest))
			}
		}
	}
}

// P14.1: depths of 0, 64 and 65 words, by const, local and dup.
func TestMostWords(t *testing.T) {
	wantDepths(t, "no word", from(t, "enter 4, break"), []int{0, 0}, 0)
	for _, more := range []string{"const 1", "local 8", "dup"} {
		full := from(t, "enter 4, const 1, "+times(63, more)+"break")
		var depths []int
		for i := range 65 {
			depths = append(depths, i)
		}
		wantDepths(t, "64 words", full, append([]int{0}, depths...), 64)
		wantFault(t, "65 words", from(t, "enter 4, const 1, "+times(64, more)+"break"), 65, api.ErrOver)
	}
	wantDepths(t, "64 words taken off again", from(t, "enter 4, "+times(64, "const 1")+times(63, "add")+"leave 4"), rising(64), 64)
	wantFault(t, "a leave at 64", from(t, "enter 4, "+times(64, "const 1")+"leave 4"), 65, api.ErrLeave)
	wantDepths(t, "at 64 what gives as many as it takes", from(t, "enter 4, "+times(64, "const 1")+"neg, call, load4, nop, break"), append(rising(64)[:65], 64, 64, 64, 64, 64), 64)
}

// rising gives the depths of an enter, so many const, as many less one that take one off, and a leave.
func rising(most int) []int {
	depths := []int{0}
	for i := range most {
		depths = append(depths, i)
	}
	for i := most; i >= 1; i-- {
		depths = append(depths, i)
	}
	return depths
}

// P14.1: a leave at each depth; it counts for the need.
func TestLeaves(t *testing.T) {
	for depth := range 65 {
		g := from(t, "enter 4, "+times(depth, "const 1")+"leave 4")
		switch depth {
		case 0:
			wantFault(t, "no word", g, 1, api.ErrUnder)
		case 1:
			wantDepths(t, "one word", g, []int{0, 0, 1}, 1)
		default:
			wantFault(t, "more words", g, depth+1, api.ErrLeave)
		}
	}
	wantDepths(t, "two leaves", from(t, "enter 4, const 1, const 1, const 1, eq 6, leave 4, leave 4"), []int{0, 0, 1, 2, 3, 1, 1}, 3)
	wantFault(t, "a leave where a way comes with no word", from(t, "enter 4, const 1, const 1, eq 5, break, leave 4"), 5, api.ErrUnder)
	wantDepths(t, "a leave that is not reached may stand at any depth", from(t, "enter 4, break, leave 4, leave 4"), []int{0, 0, -1, -1}, 0)
}

// P14.1: of an instruction that is at fault in two ways the first one is told.
func TestTwoFaultsOfOne(t *testing.T) {
	wantFault(t, "under and leave", from(t, "enter 4, leave 4"), 1, api.ErrUnder)
	// The eq lacks a word, and 1, to which it would go back, has another depth than it would leave.
	wantFault(t, "under and meet", from(t, "enter 4, nop, const 1, eq 1, break"), 3, api.ErrUnder)
	// The eq gives the break the depth 0; the dup ahead of that would leave 65 words.
	over := from(t, "0 enter 4, 1 const 1, 2 const 1, 3 eq 72, 4 goto 5, "+times(64, "const 1")+"nop, nop, dup, break")
	wantFault(t, "over and meet", over, 71, api.ErrOver)
	wantFault(t, "meet alone", over.with(71, in(api.OpNop, 0)), 71, api.ErrMeet)
}

// P14.1: of two faulty instructions the one is told that the walk takes first, which need not be the one with the lowest index.
func TestTwoFaultyInstructions(t *testing.T) {
	g := from(t, "0 enter 4, 1 goto 3, 2 pop, 3 pop, 4 goto 2")
	wantFault(t, "the second is taken first", g, 3, api.ErrUnder)
	wantFault(t, "the first alone", g.with(3, in(api.OpNop, 0)), 2, api.ErrUnder)
	both := from(t, "0 enter 4, 1 const 1, 2 const 1, 3 eq 6, 4 leave 4, 5 break, 6 pop, 7 break")
	wantFault(t, "of two that wait the lowest", both, 4, api.ErrUnder)
	wantFault(t, "the other alone", both.with(4, in(api.OpBreak, 0)), 6, api.ErrUnder)
	// 9 waits from 3 on, but by 4, 7 and 8 the walk comes to 5 first.
	wantFault(t, "one that comes to wait later, with a lower index", from(t, "0 enter 4, 1 const 1, 2 const 1, 3 eq 9, 4 goto 7, 5 pop, 6 break, 7 nop, 8 goto 5, 9 leave 4"), 5, api.ErrUnder)
	wantFault(t, "jump targets wait by index", from(t, "0 enter 4, 1 const 9, 2 jump, 3 leave 4, 4 break, 5 pop, 6 break", 3, 5), 3, api.ErrUnder)
	wantFault(t, "one that is not reached is no fault", from(t, "0 enter 4, 1 goto 4, 2 pop, 3 leave 4, 4 leave 4"), 4, api.ErrUnder)
}

// P14.1: the walks of the procedures, the lowest first; depths begin at 0 in each.
func TestProcedures(t *testing.T) {
	good, under, over := "enter 4, const 1, leave 4, ", "enter 8, pop, break, ", "enter 4, "+times(65, "const 1")+"break, "
	wantFault(t, "the second", from(t, good+under+over+"enter 4, break"), 4, api.ErrUnder)
	wantFault(t, "the third", from(t, good+good+over+under+"enter 4, break"), 6+65, api.ErrOver)
	wantFault(t, "the last", from(t, good+good+"enter 4, const 1, const 1, leave 4"), 9, api.ErrLeave)
	wantDepths(t, "three", from(t, good+"enter 8, const 1, dup, dup, break, enter 4, break"), []int{0, 0, 1, 0, 0, 1, 2, 3, 0, 0}, 1, 3, 0)
}

// P14.1: two ways that meet, with the same depth and with different ones, forward and backward.
func TestMeetings(t *testing.T) {
	// Two ways lead from 3 to 8, one by 4 and 5, the other by 6 and 7.
	forward := from(t, "0 enter 4, 1 const 1, 2 const 1, 3 eq 6, 4 const 1, 5 goto 8, 6 nop, 7 const 1, 8 nop, 9 leave 4")
	wantDepths(t, "forward, alike", forward, []int{0, 0, 1, 2, 0, 1, 0, 0, 1, 1}, 2)
	wantFault(t, "forward, the second way with less", forward.with(7, in(api.OpNop, 0)), 7, api.ErrMeet)
	wantFault(t, "forward, the second way with more", forward.with(6, in(api.OpConst, 1)), 7, api.ErrMeet)
	wantFault(t, "forward, the first way with less", forward.with(4, in(api.OpNop, 0)), 7, api.ErrMeet)
	backward := from(t, "0 enter 4, 1 nop, 2 const 1, 3 nop, 4 pop, 5 goto 1")
	wantDepths(t, "backward, alike", backward, []int{0, 0, 0, 1, 1, 0}, 1)
	wantFault(t, "backward, with more", backward.with(4, in(api.OpNop, 0)), 5, api.ErrMeet)
	wantFault(t, "backward, with less", backward.with(5, in(api.OpGoto, 3)), 5, api.ErrMeet)
	wantDepths(t, "backward to where one word stands", backward.with(4, in(api.OpNop, 0)).with(5, in(api.OpGoto, 3)), []int{0, 0, 0, 1, 1, 1}, 1)
	wantFault(t, "a branch to itself", from(t, "enter 4, const 1, const 1, eq 3, break"), 3, api.ErrMeet)
	wantFault(t, "the next one has another depth by now", from(t, "0 enter 4, 1 const 1, 2 goto 5, 3 const 1, 4 nop, 5 const 1, 6 const 1, 7 eq 9, 8 break, 9 pop, 10 goto 4"), 4, api.ErrMeet)
	wantDepths(t, "a goto to itself, with words", from(t, "enter 4, const 1, goto 2"), []int{0, 0, 1}, 1)
}

// P14.1: of the Next of one instruction the rising first counts, but the place is that of the instruction that was taken.
func TestMeetingsByJump(t *testing.T) {
	g := from(t, "0 enter 4, 1 const 1, 2 const 1, 3 jump, 4 nop, 5 pop, 6 break", 4, 5)
	wantFault(t, "a jump's targets one behind the other", g.with(4, in(api.OpConst, 1)), 4, api.ErrMeet)
	wantDepths(t, "alike", g, []int{0, 0, 1, 2, 1, 1, 0}, 2)
	wantFault(t, "back by a jump", from(t, "0 enter 4, 1 const 1, 2 nop, 3 const 1, 4 const 1, 5 jump", 2, 3), 5, api.ErrMeet)
	wantDepths(t, "back by a jump, alike", from(t, "0 enter 4, 1 const 1, 2 nop, 3 const 1, 4 jump", 2, 3), []int{0, 0, 1, 1, 2}, 2)
	two := from(t, "0 enter 4, 1 const 1, 2 const 1, 3 const 1, 4 eq 7, 5 nop, 6 jump, 7 nop, 8 jump, 9 break", 9)
	wantDepths(t, "two jumps, alike", two, []int{0, 0, 1, 2, 3, 1, 1, 1, 1, 0}, 3)
	wantFault(t, "two jumps, the second with more", two.with(7, in(api.OpConst, 1)), 8, api.ErrMeet)
	wantFault(t, "two jumps, the first with more", two.with(5, in(api.OpConst, 1)), 8, api.ErrMeet)
	wantDepths(t, "two jumps, unlike, with no targets", two.with(7, in(api.OpConst, 1)).jumping(), []int{0, 0, 1, 2, 3, 1, 1, 1, 2, -1}, 3)
	wantFault(t, "the second jump lacks a word", two.with(7, in(api.OpPop, 0)), 8, api.ErrUnder)
	wantFault(t, "a jump to itself", from(t, "enter 4, const 1, jump", 2), 2, api.ErrMeet)
	wantFault(t, "a jump to itself and to another one", from(t, "enter 4, nop, const 1, jump", 1, 3), 3, api.ErrMeet)
}

// P14.1: jumps that lie in the procedure, in another one, and nowhere.
func TestJumpsElsewhere(t *testing.T) {
	g := from(t, "0 enter 4, 1 const 1, 2 jump, 3 nop, 4 break, 5 enter 4, 6 const 1, 7 dup, 8 jump, 9 pop, 10 break")
	wantDepths(t, "no jumps", g, []int{0, 0, 1, -1, -1, 0, 0, 1, 2, -1, -1}, 1, 2)
	wantDepths(t, "in the first", g.jumping(3), []int{0, 0, 1, 0, 0, 0, 0, 1, 2, -1, -1}, 1, 2)
	wantDepths(t, "in the second", g.jumping(9), []int{0, 0, 1, -1, -1, 0, 0, 1, 2, 1, 0}, 1, 2)
	wantDepths(t, "in both, at different depths", g.jumping(4, 9), []int{0, 0, 1, -1, 0, 0, 0, 1, 2, 1, 0}, 1, 2)
	wantFault(t, "in the second, one that meets", g.jumping(4, 7, 9, 10), 9, api.ErrMeet)
	wantFault(t, "nowhere", g.jumping(4, 11), 1, api.ErrJumpTo)
	plain := from(t, "0 enter 4, 1 const 1, 2 leave 4", 1, 2)
	wantDepths(t, "jumps without a jump", plain, []int{0, 0, 1}, 1)
}

// P14.1: the need is that of what is reached, before and behind each instruction.
func TestNeeds(t *testing.T) {
	wantDepths(t, "the deepest is not reached", from(t, "enter 4, break, const 1, const 1, const 1, break"), []int{0, 0, -1, -1, -1, -1}, 0)
	wantDepths(t, "the deepest in the midst", from(t, "enter 4, const 1, dup, dup, add, add, leave 4"), []int{0, 0, 1, 2, 3, 2, 1}, 3)
	wantDepths(t, "behind the last one that is deepest", from(t, "enter 4, const 1, goto 3, dup, jump"), []int{0, 0, 1, 1, 2}, 2)
	wantDepths(t, "one way deeper than the other", from(t, "0 enter 4, 1 const 1, 2 const 1, 3 eq 9, 4 const 1, 5 dup, 6 dup, 7 dup, 8 break, 9 break"), []int{0, 0, 1, 2, 0, 1, 2, 3, 4, 0}, 4)
}

// findFaults gives code and jumps that Find refuses, one for each of its errors, with its place.
func findFaults(t *testing.T) map[string]fault {
	g := from(t, "0 enter 4, 1 const 1, 2 leave 4, 3 enter 8, 4 const 1, 5 const 2, 6 eq 5, 7 goto 4")
	long := given{code: append(slices.Repeat([]api.Instr{in(api.OpEnter, 4), in(api.OpBreak, 0)}, api.MaxInstrs/2), in(api.OpNop, 0))}
	return map[string]fault{
		"no operation":            {g.with(4, in(0, 0)), 4, api.ErrOp},
		"beyond all operations":   {g.with(7, in(60, 0)), 7, api.ErrOp},
		"an operand too many":     {g.with(5, in(api.OpPop, 1)), 5, api.ErrOperand},
		"too many instructions":   {long, api.MaxInstrs, api.ErrInstrs},
		"no code":                 {given{}, 0, api.ErrFirst},
		"no code, but jumps":      {given{nil, []uint32{0}}, 0, api.ErrFirst},
		"no enter":                {g.with(0, in(api.OpNop, 0)), 0, api.ErrFirst},
		"a frame":                 {g.with(3, in(api.OpEnter, 6)), 3, api.ErrFrame},
		"a leave":                 {g.with(2, in(api.OpLeave, 8)), 2, api.ErrFrame},
		"a branch out":            {g.with(6, in(api.OpEq, 2)), 6, api.ErrTarget},
		"a goto to its enter":     {g.with(7, in(api.OpGoto, 3)), 7, api.ErrTarget},
		"no end":                  {g.with(2, in(api.OpNop, 0)), 2, api.ErrEnds},
		"no end, the last":        {g.with(7, in(api.OpEq, 4)), 7, api.ErrEnds},
		"a jump to an enter":      {g.jumping(1, 3), 1, api.ErrJumpTo},
		"jumps that do not rise":  {g.jumping(1, 2, 2), 2, api.ErrJumpTo},
		"a jump beyond the end":   {g.jumping(8), 0, api.ErrJumpTo},
		"a jump far beyond it":    {g.jumping(2, 1<<31), 1, api.ErrJumpTo},
		"a walk's fault ahead":    {g.with(1, in(api.OpPop, 0)).with(7, in(api.OpNop, 0)), 7, api.ErrEnds},
		"a walk's fault and jump": {g.with(1, in(api.OpPop, 0)).jumping(3), 0, api.ErrJumpTo},
	}
}

// fault is something given that is refused.
type fault struct {
	given
	at  int
	err api.Errno
}

// P14.1, P14.4, P14.5: Find's errors, with its places, ahead of all faults of a walk.
func TestFindFaults(t *testing.T) {
	for what, f := range findFaults(t) {
		wantFault(t, what, f.given, f.at, f.err)
	}
}

// P14.1: code of the most instructions, in one procedure and in as many as there can be.
func TestLongest(t *testing.T) {
	one := given{code: append(append([]api.Instr{in(api.OpEnter, 4)}, slices.Repeat([]api.Instr{in(api.OpNop, 0)}, api.MaxInstrs-2)...), in(api.OpBreak, 0))}
	wantLongest(t, "one procedure", one, func(int) int { return 0 }, []int{0})
	many := given{code: slices.Repeat([]api.Instr{in(api.OpEnter, 4), in(api.OpConst, 1), in(api.OpDup, 0), in(api.OpBreak, 0)}, api.MaxInstrs/4)}
	wantLongest(t, "many procedures", many, func(at int) int { return []int{0, 0, 1, 2}[at%4] }, slices.Repeat([]int{2}, api.MaxInstrs/4))
	// Each goto goes to the one ahead of it, so that always just the lowest one waits.
	back := given{code: []api.Instr{in(api.OpEnter, 4), in(api.OpGoto, api.MaxInstrs-1)}}
	for at := uint32(2); at < api.MaxInstrs; at++ {
		back.code = append(back.code, in(api.OpGoto, at-1))
	}
	wantLongest(t, "back and back", back, func(int) int { return 0 }, []int{0})
}

// wantLongest wants depths that a rule tells.
func wantLongest(t *testing.T, what string, g given, rule func(at int) int, needs []int) {
	t.Helper()
	got := asked(g)
	if len(got.depths) != api.MaxInstrs || !slices.Equal(got.needs, needs) || got.at != 0 || got.err != api.OK {
		t.Fatalf("%s: %d depths, %d needs, %d, %d", what, len(got.depths), len(got.needs), got.at, got.err)
	}
	for at, depth := range got.depths {
		if depth != rule(at) {
			t.Fatalf("%s: the depth of %d is %d", what, at, depth)
		}
	}
}

// P14.1: many jumps with many targets, which all wait at once.
func TestManyJumps(t *testing.T) {
	many := api.MaxInstrs/2 - 3
	for _, pairs := range []int{3, 100, many} {
		last := 1 + 2*pairs // the first instruction of what stands behind the pairs
		for _, c := range []struct {
			tail string
			at   int
			err  api.Errno
		}{
			{"const 1, jump, break", 0, api.OK},
			{"const 1, const 1, jump", last + 2, api.ErrMeet},
			{"const 1, const 1, nop, jump", last + 3, api.ErrMeet},
			{"pop, break", last, api.ErrUnder},
			{"leave 4", last, api.ErrUnder},
			{"nop, jump", last + 1, api.ErrUnder},
		} {
			g := crowded(t, pairs, c.tail)
			if got := asked(g); got.at != c.at || got.err != c.err {
				t.Errorf("%d pairs and %s: %d, %d", pairs, c.tail, got.at, got.err)
			}
			if pairs < many {
				check(t, g)
			}
		}
	}
	g := crowded(t, many+1, "const 1, jump, break")
	wantLongest(t, "many jumps", g, func(at int) int {
		switch at {
		case 0:
			return 0
		case api.MaxInstrs - 1:
			return -1
		}
		return 1 - at%2
	}, []int{1})
}

// crowded gives a procedure of so many pairs of a const and a jump, and a tail; each pair, and the tail, is a target of all jumps.
func crowded(t *testing.T, pairs int, tail string) given {
	t.Helper()
	g := given{code: []api.Instr{in(api.OpEnter, 4)}}
	for range pairs {
		g.jumps = append(g.jumps, uint32(len(g.code)))
		g.code = append(g.code, in(api.OpConst, 1), in(api.OpJump, 0))
	}
	g.jumps = append(g.jumps, uint32(len(g.code)))
	g.code = append(g.code, lines(t, tail)...)
	return g
}

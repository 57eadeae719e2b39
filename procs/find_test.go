package procs_test

import (
	"slices"
	"strings"
	"testing"

	"playpen/api"
	"playpen/procs"
)

// The chapter's example 2.
func TestExampleJumpsAndNames(t *testing.T) {
	tryFind(t, "jumps {3}", sample().jumping(3), 0, api.ErrJumpTo)
	tryFind(t, "jumps {6, 4}", sample().jumping(6, 4), 1, api.ErrJumpTo)
	tryFind(t, "names {f, 4}", sample().named(4), 0, api.ErrExport)
}

// The chapter's example 3.
func TestExampleCode(t *testing.T) {
	g := sample()
	tryFind(t, "2 as leave 4", g.with(2, in(api.OpLeave, 4)), 2, api.ErrFrame)
	tryFind(t, "2 as const 1", g.with(2, in(api.OpConst, 1)), 2, api.ErrEnds)
	tryFind(t, "1 as goto 4", g.with(1, in(api.OpGoto, 4)), 1, api.ErrTarget)
	tryFind(t, "1 as goto 0", g.with(1, in(api.OpGoto, 0)), 1, api.ErrTarget)
	tryFind(t, "1 as goto 2", g.with(1, in(api.OpGoto, 2)), 0, api.OK)
	tryFind(t, "3 as enter 6", g.with(3, in(api.OpEnter, 6)), 3, api.ErrFrame)
}

// The chapter's example 4.
func TestExampleFirst(t *testing.T) {
	tryFind(t, "no code", given{}, 0, api.ErrFirst)
	tryFind(t, "0 as nop", sample().with(0, in(api.OpNop, 0)), 0, api.ErrFirst)
	tryFind(t, "6 as pop 1", sample().with(6, in(api.OpPop, 1)), 6, api.ErrOperand)
}

// P13.1, 2: there must be an enter ahead of all; without code, jumps and names are not looked at.
func TestFirst(t *testing.T) {
	tryFind(t, "an empty list", given{code: []api.Instr{}}, 0, api.ErrFirst)
	tryFind(t, "no code, jumps and names", given{nil, []uint32{0, 0}, []api.Export{{At: 0}}}, 0, api.ErrFirst)
	for op := api.OpNop; op <= api.LastOp; op++ {
		g := given{code: []api.Instr{in(op, 4), in(api.OpGoto, 1)}}
		if mostBy(op) < 4 {
			g.code[0].Arg = 0
		}
		if op == api.OpEnter {
			tryFind(t, "an enter", g, 0, api.OK)
		} else {
			tryFind(t, "another operation", g, 0, api.ErrFirst)
		}
	}
}

// P13.1, 1: an instruction that may not be is told ahead of all else, wherever it stands.
func TestInstructionsThatMayNotBe(t *testing.T) {
	g := given{
		code:  []api.Instr{in(api.OpNop, 0), in(api.OpEnter, 3), in(api.OpGoto, 0), in(api.OpConst, 1)},
		jumps: []uint32{9, 9},
		names: []api.Export{{At: 2}},
	}
	for at := range g.code {
		tryFind(t, "no operation", g.with(at, in(0, 0)), at, api.ErrOp)
		tryFind(t, "beyond the operations", g.with(at, in(60, 9)), at, api.ErrOp)
		tryFind(t, "a pop with an operand", g.with(at, in(api.OpPop, 1)), at, api.ErrOperand)
		tryFind(t, "an enter beyond its most", g.with(at, in(api.OpEnter, 65536)), at, api.ErrOperand)
		tryFind(t, "a goto beyond its most", g.with(at, in(api.OpGoto, 16384)), at, api.ErrOperand)
	}
	tryFind(t, "the first of two", g.with(2, in(0, 0)).with(1, in(api.OpPop, 1)), 1, api.ErrOperand)
}

// P13.1, 1: the most instructions, and one more, whatever else is wrong.
func TestMostInstructions(t *testing.T) {
	for _, count := range []int{api.MaxInstrs - 1, api.MaxInstrs} {
		check(t, given{code: repeated(count-2, in(api.OpNop, 0)), jumps: []uint32{1, uint32(count - 1)}, names: []api.Export{{At: 0}}})
	}
	g := given{code: repeated(api.MaxInstrs-1, in(api.OpNop, 0))}
	tryFind(t, "one too many", g, api.MaxInstrs, api.ErrInstrs)
	tryFind(t, "one too many, and no operation", g.with(5, in(0, 0)), api.MaxInstrs, api.ErrInstrs)
	tryFind(t, "one too many, and no enter", g.with(0, in(api.OpNop, 0)).jumping(3, 3), api.MaxInstrs, api.ErrInstrs)
}

// P13.1: the longest code, in one procedure with as many jumps as there can be, and in as many procedures as there can be.
func TestLongest(t *testing.T) {
	one := given{code: repeated(api.MaxInstrs-2, in(api.OpGoto, api.MaxInstrs-1)), names: []api.Export{{At: 0}}}
	for i := uint32(1); i < api.MaxInstrs; i++ {
		one.jumps = append(one.jumps, i)
	}
	if err := check(t, one); err != api.OK {
		t.Errorf("one procedure: %d", err)
	}
	many := given{code: slices.Repeat([]api.Instr{in(api.OpEnter, 4096), in(api.OpJump, 0)}, api.MaxInstrs/2)}
	for i := uint32(0); i < api.MaxInstrs; i += 2 {
		many.jumps = append(many.jumps, i+1)
		many.names = append(many.names, api.Export{At: i})
	}
	p := tryFind(t, "many procedures", many, 0, api.OK)
	if p.Count() != api.MaxInstrs/2 {
		t.Fatalf("%d procedures", p.Count())
	}
	for i, proc := range p.All() {
		begin := uint32(2 * i)
		if proc != (api.Proc{Begin: begin, End: begin + 2, Frame: 4096}) || p.Of(begin) != i || p.Of(begin+1) != i {
			t.Fatalf("procedure %d: %v", i, proc)
		}
		if targets := p.Targets(i); !slices.Equal(targets, []uint32{begin + 1}) || !p.Legal(begin, begin+1) || p.Legal(begin+1, begin+3) {
			t.Fatalf("procedure %d: %v", i, targets)
		}
	}
	checkFollows(t, many, p)
}

// P13.1, 3: which frames an enter may have, with a leave of just that frame.
func TestFrames(t *testing.T) {
	code := func(frame uint32) given {
		return given{code: []api.Instr{in(api.OpEnter, 8), in(api.OpBreak, 0), in(api.OpEnter, frame), in(api.OpLeave, frame)}}
	}
	for _, frame := range []uint32{4, 8, 12, 2048, 4092, 4096} {
		p := tryFind(t, "a frame", code(frame), 0, api.OK)
		if proc, _ := p.Proc(1); proc != (api.Proc{Begin: 2, End: 4, Frame: frame}) {
			t.Errorf("a frame of %d: %v", frame, proc)
		}
	}
	for _, frame := range []uint32{0, 1, 2, 3, 5, 6, 7, 4094, 4095, 4097, 4098, 4099, 4100, 8192, 65532, 65535} {
		tryFind(t, "no frame", code(frame), 2, api.ErrFrame)
	}
	for frame := range uint32(4200) {
		check(t, code(frame))
	}
}

// P13.1, 3: every leave of a procedure has its frame, the last one and those ahead of it.
func TestLeaves(t *testing.T) {
	g := given{code: []api.Instr{
		in(api.OpEnter, 8), in(api.OpLeave, 8), in(api.OpLeave, 8),
		in(api.OpEnter, 4), in(api.OpLeave, 4), in(api.OpNop, 0), in(api.OpLeave, 4),
		in(api.OpEnter, 12), in(api.OpLeave, 12),
	}}
	tryFind(t, "their own frames", g, 0, api.OK)
	for at, own := range map[int]uint32{1: 8, 2: 8, 4: 4, 6: 4, 8: 12} {
		for _, frame := range []uint32{0, 1, 4, 8, 12, 16, 65535} {
			if frame != own {
				tryFind(t, "another frame", g.with(at, in(api.OpLeave, frame)), at, api.ErrFrame)
			}
		}
	}
}

// P13.1, 3: where static targets may lie, of a goto and of each comparison, in the first, a middle and the last procedure.
func TestStaticTargets(t *testing.T) {
	base := given{code: slices.Repeat([]api.Instr{in(api.OpEnter, 4), in(api.OpNop, 0), in(api.OpNop, 0), in(api.OpBreak, 0)}, 3)}
	for _, op := range append(comparisons(), api.OpGoto) {
		for begin := 0; begin < 12; begin += 4 {
			for target := range uint32(16) {
				inside := int(target) > begin && int(target) < begin+4
				for at := begin + 1; at < begin+3; at++ {
					if inside {
						tryFind(t, "inside", base.with(at, in(op, target)), 0, api.OK)
					} else {
						tryFind(t, "elsewhere", base.with(at, in(op, target)), at, api.ErrTarget)
					}
				}
			}
			tryFind(t, "far beyond", base.with(begin+1, in(op, 16383)), begin+1, api.ErrTarget)
		}
	}
}

// P13.1, 3: an operand that is no static target may be what it likes.
func TestOtherOperands(t *testing.T) {
	base := given{code: []api.Instr{in(api.OpEnter, 4), in(api.OpNop, 0), in(api.OpBreak, 0)}}
	for op := api.OpNop; op <= api.LastOp; op++ {
		if isStatic(op) || op == api.OpEnter || op == api.OpLeave {
			continue
		}
		for _, arg := range []int64{0, 1, 2, 3, mostBy(op)} {
			if arg <= mostBy(op) {
				tryFind(t, "an operand", base.with(1, in(op, uint32(arg))), 0, api.OK)
			}
		}
	}
}

// P13.1, 3: what may stand last in a procedure, in the midst of the code and at its end.
func TestEnds(t *testing.T) {
	base := given{code: []api.Instr{in(api.OpEnter, 4), in(api.OpNop, 0), in(api.OpBreak, 0), in(api.OpEnter, 4), in(api.OpNop, 0), in(api.OpBreak, 0)}}
	for op := api.OpNop; op <= api.LastOp; op++ {
		for _, begin := range []int{0, 3} {
			last := in(op, 0)
			switch {
			case isStatic(op):
				last.Arg = uint32(begin + 1)
			case op == api.OpLeave:
				last.Arg = 4
			case op == api.OpEnter:
				continue
			}
			if slices.Contains(enders(), op) {
				tryFind(t, "an end", base.with(begin+2, last), 0, api.OK)
			} else {
				tryFind(t, "no end", base.with(begin+2, last), begin+2, api.ErrEnds)
			}
		}
	}
	if !slices.Equal(enders(), []api.Op{api.OpGoto, api.OpJump, api.OpLeave, api.OpBreak}) {
		t.Error("the ends are others")
	}
}

// P13.1, 3: an enter alone is no procedure.
func TestProceduresOfOne(t *testing.T) {
	enter, stop := in(api.OpEnter, 4), in(api.OpBreak, 0)
	tryFind(t, "alone", given{code: []api.Instr{enter}}, 0, api.ErrEnds)
	tryFind(t, "the first", given{code: []api.Instr{enter, enter, stop}}, 0, api.ErrEnds)
	tryFind(t, "in the midst", given{code: []api.Instr{enter, stop, enter, enter, stop}}, 2, api.ErrEnds)
	tryFind(t, "the last", given{code: []api.Instr{enter, stop, enter}}, 2, api.ErrEnds)
	tryFind(t, "of two", given{code: []api.Instr{enter, stop}}, 0, api.OK)
}

// P13.1, 3: at one instruction ErrFrame comes ahead of ErrTarget, and that ahead of ErrEnds.
func TestOrderAtOneInstruction(t *testing.T) {
	stop := in(api.OpBreak, 0)
	for _, frame := range []uint32{0, 6, 4100} {
		tryFind(t, "a wrong frame alone", given{code: []api.Instr{in(api.OpEnter, frame)}}, 0, api.ErrFrame)
		tryFind(t, "a wrong frame behind", given{code: []api.Instr{in(api.OpEnter, 4), stop, in(api.OpEnter, frame), in(api.OpEnter, 4), stop}}, 2, api.ErrFrame)
	}
	for _, op := range comparisons() {
		tryFind(t, "a comparison at the end, that goes out", given{code: []api.Instr{in(api.OpEnter, 4), in(op, 2)}}, 1, api.ErrTarget)
		tryFind(t, "a comparison at the end, that goes to the enter", given{code: []api.Instr{in(api.OpEnter, 4), in(op, 0)}}, 1, api.ErrTarget)
		tryFind(t, "a comparison at the end", given{code: []api.Instr{in(api.OpEnter, 4), in(op, 1)}}, 1, api.ErrEnds)
	}
}

// P13.1, 4: jumps rise, and lie inside procedures.
func TestJumps(t *testing.T) {
	g := given{code: []api.Instr{
		in(api.OpEnter, 4), in(api.OpNop, 0), in(api.OpBreak, 0),
		in(api.OpEnter, 4), in(api.OpBreak, 0),
		in(api.OpEnter, 4), in(api.OpNop, 0), in(api.OpJump, 0),
	}}
	for _, c := range []struct {
		jumps []uint32
		at    int
		err   api.Errno
	}{
		{nil, 0, api.OK},
		{[]uint32{}, 0, api.OK},
		{[]uint32{1, 2, 4, 6, 7}, 0, api.OK},
		{[]uint32{7}, 0, api.OK},
		{[]uint32{0}, 0, api.ErrJumpTo},
		{[]uint32{3}, 0, api.ErrJumpTo},
		{[]uint32{1, 2, 3}, 2, api.ErrJumpTo},
		{[]uint32{1, 2, 5}, 2, api.ErrJumpTo},
		{[]uint32{1, 1}, 1, api.ErrJumpTo},
		{[]uint32{1, 7, 7}, 2, api.ErrJumpTo},
		{[]uint32{2, 1}, 1, api.ErrJumpTo},
		{[]uint32{1, 4, 2, 6}, 2, api.ErrJumpTo},
		{[]uint32{6, 1, 2, 4}, 1, api.ErrJumpTo},
		{[]uint32{8}, 0, api.ErrJumpTo},
		{[]uint32{7, 8}, 1, api.ErrJumpTo},
		{[]uint32{7, 9, 9}, 1, api.ErrJumpTo},
		{[]uint32{1 << 16}, 0, api.ErrJumpTo},
		{[]uint32{1, 1<<16 + 2}, 1, api.ErrJumpTo},
		{[]uint32{1, 1 << 31}, 1, api.ErrJumpTo},
		{[]uint32{1<<32 - 1}, 0, api.ErrJumpTo},
		{[]uint32{1<<32 - 1, 1}, 0, api.ErrJumpTo},
		{[]uint32{1, 0}, 1, api.ErrJumpTo},
	} {
		tryFind(t, "jumps", g.jumping(c.jumps...), c.at, c.err)
		check(t, g.jumping(c.jumps...))
	}
}

// P13.1, 5: names stand at a Begin; they are not looked at otherwise.
func TestNames(t *testing.T) {
	g := sample()
	tryFind(t, "both", g.named(0, 3), 0, api.OK)
	tryFind(t, "falling, and twice", g.named(3, 0, 3, 0), 0, api.OK)
	for _, at := range []uint32{1, 2, 4, 5, 6, 7, 8, 9, 16384, 1 << 31, 1<<32 - 1} {
		tryFind(t, "elsewhere", g.named(at), 0, api.ErrExport)
		tryFind(t, "elsewhere, the third", g.named(3, 0, at, at), 2, api.ErrExport)
	}
	g.names = []api.Export{{Name: "", At: 0}, {Name: "", At: 3}, {Name: strings.Repeat("x", 1000), At: 3}, {Name: "\x00\xff", At: 0}}
	tryFind(t, "names that no image has", g, 0, api.OK)
	g.names = slices.Repeat([]api.Export{{Name: "f", At: 3}}, 2*api.MaxNames)
	tryFind(t, "more than an image has", g, 0, api.OK)
	g.names = append(g.names, api.Export{Name: "f", At: 4})
	tryFind(t, "the last of many", g, 2*api.MaxNames, api.ErrExport)
}

// flaw is a fault that is laid into something given, with the number of P13.1 under which it is told.
type flaw struct {
	rank int
	at   int
	err  api.Errno
	lay  func(g *given)
}

func flaws() []flaw {
	turn := func(rank int, err api.Errno, at int, one api.Instr) flaw {
		return flaw{rank, at, err, func(g *given) { g.code[at] = one }}
	}
	jump := func(at int, to uint32) flaw {
		return flaw{4, at, api.ErrJumpTo, func(g *given) { g.jumps[at] = to }}
	}
	name := func(at int, to uint32) flaw {
		return flaw{5, at, api.ErrExport, func(g *given) { g.names[at].At = to }}
	}
	return []flaw{
		turn(1, api.ErrOperand, 4, in(api.OpPop, 1)),
		turn(1, api.ErrOp, 11, in(60, 0)),
		turn(2, api.ErrFirst, 0, in(api.OpNop, 0)),
		turn(3, api.ErrFrame, 0, in(api.OpEnter, 4100)),
		turn(3, api.ErrTarget, 3, in(api.OpEq, 6)),
		turn(3, api.ErrFrame, 5, in(api.OpLeave, 4)),
		turn(3, api.ErrFrame, 6, in(api.OpEnter, 6)),
		turn(3, api.ErrTarget, 8, in(api.OpLtf, 6)),
		turn(3, api.ErrTarget, 9, in(api.OpGoto, 10)),
		turn(3, api.ErrEnds, 12, in(api.OpAdd, 0)),
		jump(0, 6), jump(1, 7), jump(2, 13),
		name(0, 13), name(1, 9),
	}
}

// P13.1: of two faults the first one is told, at its index.
func TestOrder(t *testing.T) {
	base := given{
		code: []api.Instr{
			in(api.OpEnter, 8), in(api.OpConst, 1), in(api.OpConst, 2), in(api.OpEq, 5), in(api.OpNop, 0), in(api.OpLeave, 8),
			in(api.OpEnter, 4), in(api.OpConst, 9), in(api.OpJump, 0), in(api.OpGoto, 9),
			in(api.OpEnter, 4096), in(api.OpNop, 0), in(api.OpBreak, 0),
		},
		jumps: []uint32{7, 9, 11},
		names: []api.Export{{Name: "a", At: 0}, {Name: "b", At: 10}},
	}
	tryFind(t, "no fault", base, 0, api.OK)
	list := flaws()
	for i, first := range list {
		for j, second := range list[i:] {
			g := base.cloned()
			second.lay(&g)
			first.lay(&g)
			// Of two faults in one place the first one is laid over the second.
			tryFind(t, "faults "+string(rune('A'+i))+" and "+string(rune('A'+i+j)), g, first.at, first.err)
		}
	}
	if !slices.IsSortedFunc(list, func(x, y flaw) int { return 1000*(x.rank-y.rank) + x.at - y.at }) {
		t.Error("the faults stand in another order")
	}
	all := base.cloned()
	for _, one := range slices.Backward(list) {
		one.lay(&all)
	}
	tryFind(t, "all faults", all, 4, api.ErrOperand)
}

// P13.1: what Find tells of one thing given does not hang on what was given before.
func TestFindAgain(t *testing.T) {
	for range 3 {
		check(t, sample())
		check(t, sample().jumping(6, 4))
		check(t, given{})
	}
	one, _, _ := procs.Find(sample().code, nil, nil)
	tryFind(t, "another", sample(), 0, api.OK)
	if one.Legal(5, 6) || len(one.Targets(1)) != 0 {
		t.Error("Procs took on the jumps of others")
	}
}

package flow_test

import (
	"slices"

	"playpen/api"
	"playpen/procs"
)

// The oracle: the chapter's words, one by one.

// rowBy gives what an operation takes and gives, and its kind, as chapter 7's table has it.
func rowBy(op api.Op) (takes int, gives int, kind api.OpKind) {
	switch op {
	case api.OpNop:
		return 0, 0, api.KindPlain
	case api.OpBreak:
		return 0, 0, api.KindStop
	case api.OpEnter:
		return 0, 0, api.KindEnter
	case api.OpLeave:
		return 1, 0, api.KindLeave
	case api.OpCall:
		return 1, 1, api.KindCall
	case api.OpGoto:
		return 0, 0, api.KindGoto
	case api.OpJump:
		return 1, 0, api.KindJump
	case api.OpConst, api.OpLocal:
		return 0, 1, api.KindPlain
	case api.OpPop, api.OpArg:
		return 1, 0, api.KindPlain
	case api.OpDup:
		return 1, 2, api.KindPlain
	case api.OpLoad1, api.OpLoad2, api.OpLoad4, api.OpSex8, api.OpSex16, api.OpNeg, api.OpNot, api.OpNegf, api.OpCvif, api.OpCvfi:
		return 1, 1, api.KindPlain
	case api.OpStore1, api.OpStore2, api.OpStore4, api.OpCopy:
		return 2, 0, api.KindPlain
	}
	if slices.Contains(comparisons(), op) {
		return 2, 0, api.KindBranch
	}
	return 2, 1, api.KindPlain
}

func comparisons() []api.Op {
	return []api.Op{
		api.OpEq, api.OpNe, api.OpLti, api.OpLei, api.OpGti, api.OpGei, api.OpLtu, api.OpLeu,
		api.OpGtu, api.OpGeu, api.OpEqf, api.OpNef, api.OpLtf, api.OpLef, api.OpGtf, api.OpGef,
	}
}

func kindBy(op api.Op) api.OpKind {
	_, _, kind := rowBy(op)
	return kind
}

// findBy gives Find's place and error: chapter 14 asks for just those.
func findBy(g given) (int, api.Errno) {
	_, at, err := procs.Find(g.code, g.jumps, nil)
	return at, err
}

// bounds gives Begin and End of the procedure in which an instruction lies.
func bounds(code []api.Instr, at int) (int, int) {
	begin, end := at, at+1
	for code[begin].Op != api.OpEnter {
		begin--
	}
	for end < len(code) && code[end].Op != api.OpEnter {
		end++
	}
	return begin, end
}

// isNext tells whether an instruction of the same procedure is a Next of another one.
func isNext(g given, at int, to int) bool {
	arg := int(g.code[at].Arg)
	switch kindBy(g.code[at].Op) {
	case api.KindPlain, api.KindEnter, api.KindCall:
		return to == at+1
	case api.KindBranch:
		return to == at+1 || to == arg
	case api.KindGoto:
		return to == arg
	case api.KindJump:
		return slices.Contains(g.jumps, uint32(to))
	}
	return false
}

// nextBy gives the Next of an instruction, of code that Find takes.
func nextBy(g given, at uint32) []uint32 {
	var next []uint32
	begin, end := bounds(g.code, int(at))
	for to := begin; to < end; to++ {
		if isNext(g, int(at), to) {
			next = append(next, uint32(to))
		}
	}
	return next
}

// takeBy tells the fault of an instruction that is taken at a depth, or the depth behind it.
func takeBy(op api.Op, d int) (int, api.Errno) {
	takes, gives, kind := rowBy(op)
	if d < takes {
		return 0, api.ErrUnder
	}
	if d-takes+gives > 64 {
		return 0, api.ErrOver
	}
	if kind == api.KindLeave && d != 1 {
		return 0, api.ErrLeave
	}
	return d - takes + gives, api.OK
}

// walkBy walks through a procedure, and lays the depths down.
func walkBy(g given, begin int, depths []int) (need int, at int, err api.Errno) {
	depths[begin] = 0
	waits := []int{begin}
	for len(waits) > 0 {
		at := slices.Min(waits)
		d := depths[at]
		d2, err := takeBy(g.code[at].Op, d)
		if err != api.OK {
			return 0, at, err
		}
		need = max(need, d, d2)
		for _, to := range nextBy(g, uint32(at)) {
			if depths[to] < 0 {
				depths[to] = d2
				waits = append(waits, int(to))
			} else if depths[to] != d2 {
				return 0, at, api.ErrMeet
			}
		}
		waits = slices.DeleteFunc(waits, func(one int) bool { return one == at })
	}
	return need, 0, api.OK
}

// depthsBy tells what Depths has to.
func depthsBy(g given) told {
	if at, err := findBy(g); err != api.OK {
		return told{at: at, err: err}
	}
	var want told
	for range g.code {
		want.depths = append(want.depths, -1)
	}
	for begin, one := range g.code {
		if one.Op != api.OpEnter {
			continue
		}
		need, at, err := walkBy(g, begin, want.depths)
		if err != api.OK {
			return told{at: at, err: err}
		}
		want.needs = append(want.needs, need)
	}
	return want
}

// isLeader tells whether a block begins at an instruction.
func isLeader(g given, at int) bool {
	if g.code[at].Op == api.OpEnter || slices.Contains(g.jumps, uint32(at)) {
		return true
	}
	for _, one := range g.code {
		kind := kindBy(one.Op)
		if (kind == api.KindBranch || kind == api.KindGoto) && int(one.Arg) == at {
			return true
		}
	}
	switch kindBy(g.code[at-1].Op) {
	case api.KindBranch, api.KindGoto, api.KindJump, api.KindCall, api.KindLeave, api.KindStop:
		return true
	}
	return false
}

// blocksBy tells the blocks of code without a fault.
func blocksBy(g given, depths []int) []api.Block {
	var blocks []api.Block
	for begin := 0; begin < len(g.code); {
		end := begin + 1
		for end < len(g.code) && !isLeader(g, end) {
			end++
		}
		blocks = append(blocks, api.Block{Begin: uint32(begin), End: uint32(end), Depth: depths[begin], Next: nextBy(g, uint32(end-1))})
		begin = end
	}
	return blocks
}

// reachedWithout tells to which blocks ways lead from one that do not go through another.
func reachedWithout(blocks []api.Block, first int, without int) []bool {
	numbers := map[uint32]int{}
	for b, block := range blocks {
		numbers[block.Begin] = b
	}
	reached := make([]bool, len(blocks))
	if first == without {
		return reached
	}
	reached[first] = true
	for list := []int{first}; len(list) > 0; list = list[1:] {
		for _, to := range blocks[list[0]].Next {
			if b := numbers[to]; b != without && !reached[b] {
				reached[b] = true
				list = append(list, b)
			}
		}
	}
	return reached
}

// headsBy tells the heads of blocks: which other blocks lie on every way to each, and of those the one that has all others on every way to itself.
func headsBy(g given, blocks []api.Block) []int {
	heads := make([]int, len(blocks))
	first := 0
	var on [][]bool // by block and by another one of the same procedure, from its first on: whether the other lies on every way to it
	for b, block := range blocks {
		if g.code[block.Begin].Op == api.OpEnter {
			first = b
			on = onEveryWay(g, blocks, first)
		}
		heads[b] = headBy(on, first, b, block.Depth >= 0)
	}
	return heads
}

// onEveryWay tells of the blocks of a procedure which lie on every way to which.
func onEveryWay(g given, blocks []api.Block, first int) [][]bool {
	_, end := bounds(g.code, int(blocks[first].Begin))
	count := 0
	for first+count < len(blocks) && int(blocks[first+count].Begin) < end {
		count++
	}
	on := make([][]bool, count)
	for b := range on {
		on[b] = make([]bool, count)
	}
	for x := range count {
		reached := reachedWithout(blocks, first, first+x)
		for b := range count {
			on[b][x] = b != x && !reached[first+b]
		}
	}
	return on
}

// headBy tells a block's head by which blocks lie on every way to it.
func headBy(on [][]bool, first int, b int, reached bool) int {
	if b == first || !reached {
		return -1
	}
	mine := on[b-first]
	head := -1
	for x := range mine {
		if !mine[x] {
			continue
		}
		all := true
		for y := range mine {
			all = all && (!mine[y] || y == x || on[x][y])
		}
		if all && head >= 0 {
			panic("a block has two heads")
		}
		if all {
			head = first + x
		}
	}
	return head
}

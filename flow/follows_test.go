package flow_test

import (
	"slices"
	"testing"

	"playpen/api"
	"playpen/flow"
)

// checkFollows holds P14.6 to P14.8, by what the calls tell of code that Depths takes.
func checkFollows(t *testing.T, g given) {
	t.Helper()
	got := asked(g)
	checkReached(t, g, got)
	checkNops(t, g, got)
	checkStretches(t, g, got.depths)
	checkClimb(t, g)
}

// checkReached holds P14.6.
func checkReached(t *testing.T, g given, got told) {
	t.Helper()
	proc := -1
	for at, depth := range got.depths {
		op := g.code[at].Op
		if op == api.OpEnter {
			proc++
		}
		if depth == -1 {
			continue
		}
		takes, gives, kind := rowBy(op)
		next, err := flow.Next(g.code, g.jumps, uint32(at))
		if err != api.OK || len(next) == 0 && kind != api.KindLeave && kind != api.KindStop && kind != api.KindJump {
			t.Fatalf("%v: nothing comes behind %d: %d", g, at, err)
		}
		for _, to := range next {
			if got.depths[to] != depth-takes+gives {
				t.Fatalf("%v: %d leads to %d, whose depth is %d", g, at, to, got.depths[to])
			}
		}
		if depth < 0 || depth > api.MaxOps || takes > depth || depth > got.needs[proc] || depth-takes+gives > got.needs[proc] {
			t.Fatalf("%v: the depth of %d is %d", g, at, depth)
		}
	}
	if len(got.depths) != len(g.code) || len(got.needs) != proc+1 || slices.Min(got.needs) < 0 || slices.Max(got.needs) > api.MaxOps {
		t.Fatalf("%v: %v", g, got)
	}
}

// checkNops holds P14.7: an instruction that is not reached may be a nop, as long as Find takes the code.
func checkNops(t *testing.T, g given, got told) {
	t.Helper()
	for at, depth := range got.depths {
		turned := g.with(at, in(api.OpNop, 0))
		if _, err := findBy(turned); depth != -1 || err != api.OK {
			continue
		}
		if again := asked(turned); !sameTold(again, got) {
			t.Fatalf("%v: with a nop at %d: %v, not %v", g, at, again, got)
		}
	}
}

// checkStretches holds what P14.8 says of single blocks, and that Next are beginnings of blocks.
func checkStretches(t *testing.T, g given, depths []int) {
	t.Helper()
	blocks, _, _ := flow.Blocks(g.code, g.jumps)
	begins := map[uint32]int{}
	end := uint32(0)
	for b, block := range blocks {
		if block.Begin != end || block.End <= block.Begin || block.Depth != depths[block.Begin] {
			t.Fatalf("%v: block %d: %v behind %d", g, b, block, end)
		}
		end = block.End
		begins[block.Begin] = b
		for at := block.Begin; at < block.End; at++ {
			if (depths[at] == -1) != (block.Depth == -1) {
				t.Fatalf("%v: block %d: %v is reached in part", g, b, block)
			}
			next, _ := flow.Next(g.code, g.jumps, at)
			if at < block.End-1 && !slices.Equal(next, []uint32{at + 1}) || at == block.End-1 && !slices.Equal(next, block.Next) {
				t.Fatalf("%v: block %d: %v: behind %d comes %v", g, b, block, at, next)
			}
		}
	}
	if int(end) != len(g.code) {
		t.Fatalf("%v: the blocks end at %d", g, end)
	}
	for _, block := range blocks {
		for _, to := range block.Next {
			if _, is := begins[to]; !is {
				t.Fatalf("%v: no block begins at %d", g, to)
			}
		}
	}
}

// checkClimb holds what P14.8 says of heads: each lies on every way, and from head to head one comes to the procedure's first block.
func checkClimb(t *testing.T, g given) {
	t.Helper()
	blocks, _, _ := flow.Blocks(g.code, g.jumps)
	heads, _, _ := flow.Heads(g.code, g.jumps)
	if len(heads) != len(blocks) {
		t.Fatalf("%v: %d heads of %d blocks", g, len(heads), len(blocks))
	}
	first := 0
	for b, head := range heads {
		if g.code[blocks[b].Begin].Op == api.OpEnter {
			first = b
		}
		if b == first || blocks[b].Depth == -1 {
			if head != -1 {
				t.Fatalf("%v: block %d has the head %d", g, b, head)
			}
			continue
		}
		if reachedWithout(blocks, first, head)[b] {
			t.Fatalf("%v: a way to block %d goes round its head %d", g, b, head)
		}
		steps := 0
		for head != first && steps <= len(heads) {
			head = heads[head]
			steps++
		}
		if steps > len(heads) {
			t.Fatalf("%v: from block %d the heads go on for ever", g, b)
		}
	}
}

// P14.1 to P14.8: over much scattered code without faults.
func TestScatteredCode(t *testing.T) {
	d := &dice{words: scattered(99991)}
	seen := map[string]int{}
	for n := range 4000 {
		g := someGiven(d, 4+n%20)
		if check(t, g) != api.OK {
			t.Fatalf("%v has a fault", g)
		}
		count(g, seen)
	}
	for _, what := range []string{"not reached", "jump", "leave", "break", "loop", "the block ahead", "another block", "a later block", "deep"} {
		if seen[what] < 200 {
			t.Errorf("%s: seen %d times", what, seen[what])
		}
	}
}

// count counts what is seen in code, so that one knows what was tested.
func count(g given, seen map[string]int) {
	got := asked(g)
	for at, depth := range got.depths {
		if depth == -1 {
			seen["not reached"]++
			continue
		}
		switch g.code[at].Op {
		case api.OpJump:
			seen["jump"]++
		case api.OpLeave:
			seen["leave"]++
		case api.OpBreak:
			seen["break"]++
		case api.OpGoto, api.OpEq, api.OpLtf, api.OpGeu:
			if int(g.code[at].Arg) < at {
				seen["loop"]++
			}
		}
		if depth > 3 {
			seen["deep"]++
		}
	}
	heads, _, _ := flow.Heads(g.code, g.jumps)
	for b, head := range heads {
		switch {
		case head == -1:
		case head == b-1:
			seen["the block ahead"]++
		case head > b:
			seen["a later block"]++
		default:
			seen["another block"]++
		}
	}
}

// P14.1 to P14.5: over long scattered code without faults, in which ways meet often.
func TestScatteredLongCode(t *testing.T) {
	d := &dice{words: scattered(99991), next: 7}
	for range 25 {
		if g := someGiven(d, 200); check(t, g) != api.OK {
			t.Fatalf("%v has a fault", g)
		}
	}
}

// P14.1: over much scattered code with some faults, of all kinds.
func TestScatteredFaults(t *testing.T) {
	d := &dice{words: scattered(99991), next: 50}
	met := map[api.Errno]int{}
	for range 12000 {
		g := someGiven(d, 12)
		for range 1 + d.upTo(2) {
			if len(g.code) > 0 {
				layStray(d, &g)
			}
		}
		met[check(t, g)]++
	}
	for _, err := range []api.Errno{
		api.OK, api.ErrUnder, api.ErrMeet, api.ErrLeave,
		api.ErrOp, api.ErrOperand, api.ErrFirst, api.ErrFrame, api.ErrTarget, api.ErrEnds, api.ErrJumpTo,
	} {
		if met[err] < 50 {
			t.Errorf("error %d was met %d times", err, met[err])
		}
	}
}

// P14.1 to P14.8: over all code of up to five instructions of a few kinds behind an enter, with and without jumps.
func TestShortCode(t *testing.T) {
	some := []api.Instr{in(api.OpConst, 0), in(api.OpDup, 0), in(api.OpEq, 1), in(api.OpNe, 4), in(api.OpGoto, 2), in(api.OpJump, 0), in(api.OpLeave, 4)}
	met := map[api.Errno]int{}
	codes := [][]api.Instr{{in(api.OpEnter, 4)}}
	for len(codes) > 0 {
		code := codes[0]
		codes = codes[1:]
		met[check(t, given{code, nil})]++
		met[check(t, given{code, []uint32{1, 3}})]++
		if len(code) == 6 {
			continue
		}
		for _, one := range some {
			codes = append(codes, append(code[:len(code):len(code)], one))
		}
	}
	for _, err := range []api.Errno{api.OK, api.ErrUnder, api.ErrMeet, api.ErrLeave} {
		if met[err] < 100 {
			t.Errorf("error %d was met %d times", err, met[err])
		}
	}
}

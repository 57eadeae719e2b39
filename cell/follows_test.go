package cell_test

import (
	"slices"
	"testing"

	"playpen/api"
	"playpen/cell"
	"playpen/step"
	"playpen/verify"
)

// P23.5: Check takes what Translate answers, which has no more cells than there are instructions, and a cell at each leader.
func TestTranslatedIsTaken(t *testing.T) {
	for round := range uint64(1500) {
		m := newDice(round+70000).someModule(t, 25)
		x, err := cell.Translate(m)
		if err != api.OK {
			t.Fatalf("Translate: %d", err)
		}
		wantTold(t, "what Translate answers", m, x, 0, api.OK)
		if len(x.Cells) > m.Count() || len(x.Begins) != m.Count() {
			t.Fatalf("%d cells, %d begins of %d", len(x.Cells), len(x.Begins), m.Count())
		}
		leads, _ := cell.Leaders(m)
		for _, index := range leads {
			if number := x.Begins[index]; number == no || x.Cells[number].Fused.At != index {
				t.Fatalf("leader %d of %v begins no cell", index, m.Image().Code)
			}
		}
	}
}

// P23.6: each instruction lies in one cell alone, which is the one that Where tells.
func TestEachInOneCell(t *testing.T) {
	for round := range uint64(500) {
		d := newDice(round + 80000)
		m := d.someModule(t, 20)
		x := d.someCover(t, m.Image())
		wantTold(t, "a cover", m, x, 0, api.OK)
		for index := range uint32(m.Count()) {
			count := 0
			for i, c := range x.Cells {
				if c.Fused.At <= index && index < c.Fused.At+c.Fused.Len {
					wantWhere(t, x, index, uint32(i), index-c.Fused.At)
					count++
				}
			}
			if count != 1 {
				t.Fatalf("instruction %d lies in %d cells of %v", index, count, x.Cells)
			}
		}
		wantNowhere(t, x, uint32(m.Count()))
	}
}

// someState gives a state of a module that fits, runs and stands at an instruction that is reached.
func (d *dice) someState(m *verify.Module, at uint32) api.State {
	size := uint32(1) << m.Bits()
	s := api.State{Life: api.LifeRuns, PC: at, SP: size - 64 - 4*uint32(d.upTo(int(m.Image().Stack-64)/4)), Data: make([]byte, size)}
	for i := range s.Data {
		s.Data[i] = byte(d.word())
	}
	proc, _ := m.ProcOf(at)
	for range m.Depth(at) + d.upTo(64-proc.Need) {
		s.Ops = append(s.Ops, d.someWord())
	}
	return s
}

// aimedState gives such a state in which a jump, a call or a leave finds mostly a place to which it may go.
func (d *dice) aimedState(m *verify.Module, at uint32) api.State {
	s, im := d.someState(m, at), m.Image()
	var words []uint32
	for index := range uint32(m.Count()) {
		one, _ := m.At(at)
		if one.Op == api.OpJump && m.Legal(at, index) || one.Op == api.OpCall && m.Begins(index) || one.Op == api.OpLeave && m.Back(index) {
			words = append(words, index)
		}
	}
	if len(words) == 0 || d.upTo(7) == 0 {
		return s
	}
	word := one(d, words)
	if im.Code[at].Op != api.OpLeave {
		s.Ops[len(s.Ops)-1] = word
		return s
	}
	size := uint32(len(s.Data))
	s.SP = max(size-64-im.Code[at].Arg, size-im.Stack)
	for i := range uint32(4) {
		s.Data[(s.SP+im.Code[at].Arg+i)%size] = byte(word >> (8 * i))
	}
	return s
}

// came tells how a step came to the next instruction: the operation, OpEq for each comparison, or OpNop by going on.
func came(m *verify.Module, before, after api.State) api.Op {
	one, _ := m.At(before.PC)
	switch {
	case after.PC == before.PC+1 && one.Op != api.OpLeave:
		return api.OpNop
	case slices.Contains(comparisons(), one.Op):
		return api.OpEq
	}
	return one.Op
}

// wantArrival wants a state that was come to from another one than the one ahead to stand at a cell's first instruction.
func wantArrival(t testing.TB, m *verify.Module, x api.Threaded, before, after api.State) api.Op {
	t.Helper()
	op := came(m, before, after)
	if op != api.OpNop && x.Begins[after.PC] == no {
		t.Fatalf("from %d to %d, the midst of a cell: %v", before.PC, after.PC, x)
	}
	return op
}

// wantTaken takes the instructions of a cell, from a state at its beginning, and wants them to lead from one to the next, and the last one to a cell's first.
func wantTaken(t testing.TB, m *verify.Module, x api.Threaded, number uint32, s api.State, grants []api.Grant, replies []api.Reply) {
	t.Helper()
	c := x.Cells[number]
	for i := range c.Fused.Len {
		next, turn, err := step.Step(m, grants, s, replies)
		if err != api.OK {
			t.Fatalf("%v: %d", c, err)
		}
		last := i+1 == c.Fused.Len
		if last && (turn.Waits || next.Life != api.LifeRuns) {
			return
		}
		if next.Life != api.LifeRuns || !turn.Took || !last && next.PC != c.Fused.At+i+1 || last && x.Begins[next.PC] == no {
			t.Fatalf("%v, step %d: Life %d, PC %d, %+v", c, i, next.Life, next.PC, turn)
		}
		s = next
	}
	one, _ := m.At(c.Fused.At + c.Fused.Len - 1)
	there := x.Begins[s.PC]
	if there != number+1 && there != c.To && !slices.Contains([]api.Op{api.OpCall, api.OpLeave, api.OpJump}, one.Op) {
		t.Fatalf("%v leads to cell %d", c, there)
	}
}

// P23.6: wherever a run comes to from elsewhere, or by a return, a cell begins, of whatever threaded code Check takes.
func TestControlComesToCells(t *testing.T) {
	seen := map[api.Op]int{}
	for round := range uint64(1000) {
		d := newDice(round + 90000)
		m := d.someModule(t, 20)
		x := checkTranslate(t, m)
		if d.upTo(1) == 0 {
			x = d.someCover(t, m.Image())
		}
		wantTold(t, "threaded code", m, x, 0, api.OK)
		grants, replies := []api.Grant{{Number: 0, Args: 3}}, []api.Reply{{Value: d.someWord()}}
		for at := range uint32(m.Count()) {
			if m.Depth(at) < 0 {
				continue
			}
			before := d.aimedState(m, at)
			after, turn, err := step.Step(m, grants, before, replies)
			if err != api.OK {
				t.Fatalf("Step at %d of %v: %d", at, m.Image().Code, err)
			}
			if turn.Took && after.Life == api.LifeRuns {
				seen[wantArrival(t, m, x, before, after)]++
			}
			if number := x.Begins[at]; number != no {
				wantTaken(t, m, x, number, d.aimedState(m, at), grants, replies)
			}
		}
	}
	for _, op := range []api.Op{api.OpNop, api.OpGoto, api.OpJump, api.OpCall, api.OpLeave, api.OpEq} {
		if seen[op] < 50 {
			t.Errorf("operation %d led elsewhere %d times", op, seen[op])
		}
	}
}

// P23.6: the same along whole runs, from their starts.
func TestRunsComeToCells(t *testing.T) {
	count := 0
	for round := range uint64(300) {
		d := newDice(round + 100000)
		m := d.someModule(t, 20)
		x := d.someCover(t, m.Image())
		for _, proc := range m.Procs() {
			fresh, _ := step.Fresh(m)
			s, err := step.Start(m, fresh, proc.Begin, []uint32{d.someWord(), d.someWord()})
			if err != api.OK || x.Begins[s.PC] == no {
				t.Fatalf("Start at %d: %d, %v", proc.Begin, err, x)
			}
			for range 60 {
				next, turn, err := step.Step(m, []api.Grant{{Number: 0}}, s, []api.Reply{{Value: 7}})
				if err != api.OK || !turn.Took || next.Life != api.LifeRuns {
					break
				}
				if wantArrival(t, m, x, s, next) != api.OpNop {
					count++
				}
				s = next
			}
		}
	}
	if count < 500 {
		t.Errorf("control came from elsewhere %d times", count)
	}
}

// apart gives threaded code with one of its cells taken apart into single instructions.
func apart(im api.Image, x api.Threaded, i int) api.Threaded {
	things := thingsOf(x.Cells[:i])
	for at := x.Cells[i].Fused.At; at < x.Cells[i].Fused.At+x.Cells[i].Fused.Len; at++ {
		things = append(things, thing(at, 1, api.FuseOne, im.Code[at].Op, im.Code[at].Arg, 0))
	}
	return numbered(append(things, thingsOf(x.Cells[i+1:])...), len(im.Code))
}

// P23.7: with a cell taken apart into single instructions Check takes the code again, up to the last cell of more than one.
func TestTakenApart(t *testing.T) {
	seen := map[api.FuseKind]int{}
	for round := range uint64(400) {
		d := newDice(round + 110000)
		m := d.someModule(t, 15)
		im := m.Image()
		x := checkTranslate(t, m)
		if d.upTo(1) == 0 {
			x = d.someCover(t, im)
		}
		for i, c := range x.Cells {
			if c.Fused.Len > 1 {
				seen[c.Fused.Kind]++
				wantTold(t, "taken apart", m, apart(im, x, i), 0, api.OK)
			}
		}
		for {
			i := slices.IndexFunc(x.Cells, func(c api.Cell) bool { return c.Fused.Len > 1 })
			if i < 0 {
				break
			}
			x = apart(im, x, i)
			wantTold(t, "taken apart, one after the other", m, x, 0, api.OK)
		}
		if len(x.Cells) != len(im.Code) {
			t.Fatalf("%d cells of %d", len(x.Cells), len(im.Code))
		}
	}
	for k := api.FusePush; k <= api.FuseBump; k++ {
		if seen[k] < 30 {
			t.Errorf("kind %d was taken apart %d times", k, seen[k])
		}
	}
}

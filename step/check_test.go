package step_test

import (
	"slices"
	"testing"

	"playpen/api"
	"playpen/step"
)

// check asks Step and the book, holds against each other what they answer, and holds what follows (P18.6 to P18.10) against the page's words.
func check(t testing.TB, m made, grants []api.Grant, s api.State, replies []api.Reply) (api.State, api.Turn) {
	t.Helper()
	wantState, wantTurn, wantErr := m.step(grants, s, replies)
	got, turn, err := step.Step(m.Module, grants, s, replies)
	if err != wantErr || !sameTurn(turn, wantTurn) || !sameState(got, wantState) {
		t.Fatalf("%v\nat PC %d, SP %d, Ops %x: %+v, %d, want %+v, %d\nLife %d, PC %d, SP %d, Ops %x, Value %x, Fault %d\nwant Life %d, PC %d, SP %d, Ops %x, Value %x, Fault %d",
			m.image, s.PC, s.SP, s.Ops, turn, err, wantTurn, wantErr, got.Life, got.PC, got.SP, got.Ops, got.Value, got.Fault, wantState.Life, wantState.PC, wantState.SP, wantState.Ops, wantState.Value, wantState.Fault)
	}
	if err == api.OK {
		checkTurn(t, m, grants, s, got, turn)
		checkContained(t, m, s, replies, got, turn)
		checkWords(t, m, s, got, turn)
		checkFault(t, m, s, got)
	}
	return got, turn
}

// checkTurn holds a turn against P18.6 and P18.7.
func checkTurn(t testing.TB, m made, grants []api.Grant, s, got api.State, turn api.Turn) {
	t.Helper()
	if !step.Fits(m.Module, got) || !m.fits(got) {
		t.Fatalf("PC %d: what is answered does not fit: %+v", s.PC, got)
	}
	runs := s.Life == api.LifeRuns
	if runs && turn.Took == turn.Waits || !runs && (turn.Took || turn.Waits) || turn.Made && !turn.Took {
		t.Fatalf("PC %d, Life %d: %+v", s.PC, s.Life, turn)
	}
	if !turn.Took && !sameState(s, got) {
		t.Fatalf("PC %d, Life %d: nothing was taken, and the state became another one", s.PC, s.Life)
	}
	if turn.Made || turn.Waits {
		if x, is := grantedBy(grants, turn.Event.Number); !is || len(turn.Event.Args) != x.Args || turn.Event.At != s.PC {
			t.Fatalf("PC %d: %+v", s.PC, turn)
		}
	} else if !sameEvent(turn.Event, api.Event{}) {
		t.Fatalf("PC %d: an event of no call: %+v", s.PC, turn)
	}
}

// checkContained holds what changed in the data against P18.8.
func checkContained(t testing.TB, m made, s api.State, replies []api.Reply, got api.State, turn api.Turn) {
	t.Helper()
	may := map[int64]bool{}
	mark := func(at uint32, count int) {
		for i := range int64(count) {
			may[m.place(int64(at)+i)] = true
		}
	}
	if turn.Took {
		one := m.image.Code[s.PC]
		switch one.Op {
		case api.OpStore1:
			mark(s.Ops[len(s.Ops)-2], 1)
		case api.OpStore2:
			mark(s.Ops[len(s.Ops)-2], 2)
		case api.OpStore4:
			mark(s.Ops[len(s.Ops)-2], 4)
		case api.OpCopy:
			mark(s.Ops[len(s.Ops)-2], int(one.Arg))
		case api.OpArg:
			mark(s.SP+4+4*one.Arg, 4)
		case api.OpCall:
			if !turn.Made {
				mark(s.SP, 4)
				break
			}
			for _, w := range replies[0].Writes {
				mark(w.At, len(w.Bytes))
			}
		}
	}
	if len(got.Data) != len(s.Data) {
		t.Fatalf("PC %d: %d bytes became %d", s.PC, len(s.Data), len(got.Data))
	}
	for i, x := range got.Data {
		if x != s.Data[i] && !may[int64(i)] {
			t.Fatalf("PC %d: the byte %d became %d", s.PC, i, x)
		}
	}
}

// checkWords holds the number of words against P18.9.
func checkWords(t testing.TB, m made, s, got api.State, turn api.Turn) {
	t.Helper()
	if !turn.Took || got.Life == api.LifeFault {
		return
	}
	op := m.image.Code[s.PC].Op
	takes, gives := rowBy(op)
	more := gives - takes
	switch {
	case op == api.OpCall && !turn.Made:
		more = -1
	case op == api.OpLeave && got.Life == api.LifeRuns:
		more = 0
	}
	if len(got.Ops) != len(s.Ops)+more || len(got.Ops) > 64 {
		t.Fatalf("PC %d, op %d: %d words became %d", s.PC, op, len(s.Ops), len(got.Ops))
	}
	if kept := min(len(s.Ops)-takes, len(got.Ops)); !slices.Equal(s.Ops[:kept], got.Ops[:kept]) {
		t.Fatalf("PC %d, op %d: Ops %x became %x", s.PC, op, s.Ops, got.Ops)
	}
}

// checkFault holds a fault against P18.10.
func checkFault(t testing.TB, m made, s, got api.State) {
	t.Helper()
	if s.Life != api.LifeRuns || got.Life != api.LifeFault {
		return
	}
	kind := got.Fault
	got.Life, got.Fault = s.Life, s.Fault
	if !sameState(got, s) {
		t.Fatalf("PC %d: fault %d changed something", s.PC, kind)
	}
	op := m.image.Code[s.PC].Op
	if !slices.Contains(faultsBy()[op], kind) {
		t.Fatalf("PC %d, op %d: fault %d", s.PC, op, kind)
	}
	if kind == api.FaultDivide && s.Ops[len(s.Ops)-1] != 0 {
		t.Fatalf("PC %d: a division by %d", s.PC, s.Ops[len(s.Ops)-1])
	}
}

// faultsBy tells which faults come of which operations.
func faultsBy() map[api.Op][]api.Fault {
	return map[api.Op][]api.Fault{
		api.OpBreak: {api.FaultBreak},
		api.OpDivi:  {api.FaultDivide}, api.OpDivu: {api.FaultDivide}, api.OpModi: {api.FaultDivide}, api.OpModu: {api.FaultDivide},
		api.OpJump:  {api.FaultJump},
		api.OpCall:  {api.FaultCall, api.FaultSyscall, api.FaultDeep},
		api.OpEnter: {api.FaultStack},
		api.OpLeave: {api.FaultStack, api.FaultReturn, api.FaultDeep},
	}
}

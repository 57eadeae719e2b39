package step_test

import (
	"bytes"
	"slices"
	"testing"

	"playpen/api"
	"playpen/step"
)

// P18.1, P18.4: the first example.
func TestExample1(t *testing.T) {
	m := sample(t)
	want := api.State{Life: api.LifeIdle, PC: 0, SP: 192, Data: make([]byte, 256)}
	s, err := step.Fresh(m.Module)
	if err != api.OK || !sameState(s, want) {
		t.Fatalf("%+v, %d", s, err)
	}
	next, turn, err := step.Step(m.Module, nil, s, nil)
	if err != api.OK || !sameState(next, want) || !sameTurn(turn, api.Turn{}) {
		t.Errorf("%+v, %+v, %d", next, turn, err)
	}
}

// P18.3: the second example.
func TestExample2(t *testing.T) {
	m := sample(t)
	s, err := step.Start(m.Module, fresh(t, m), 0, []uint32{7})
	if err != api.OK || s.Life != api.LifeRuns || s.PC != 0 || s.SP != 192 || len(s.Ops) != 0 || s.Value != 0 || s.Fault != 0 {
		t.Fatalf("%+v, %d", s, err)
	}
	want := append(make([]byte, 192), 0xFF, 0xFF, 0xFF, 0xFF, 7)
	want = append(want, make([]byte, 256-len(want))...)
	if !bytes.Equal(s.Data, want) {
		t.Errorf("%v", s.Data)
	}
	if s, err := step.Start(m.Module, fresh(t, m), 1, []uint32{7}); err != api.ErrEntry || !isZero(s) {
		t.Errorf("at 1: %+v, %d", s, err)
	}
	if s, err := step.Start(m.Module, fresh(t, m), 0, make([]uint32, 16)); err != api.ErrArgs || !isZero(s) {
		t.Errorf("with 16 arguments: %+v, %d", s, err)
	}
}

// P18.4: the third example.
func TestExample3(t *testing.T) {
	m := sample(t)
	s := begun(t, m, 0, 7)
	data := slices.Clone(s.Data)
	for i, want := range []api.State{
		{Life: api.LifeRuns, PC: 1, SP: 184},
		{Life: api.LifeRuns, PC: 2, SP: 184, Ops: []uint32{12}},
		{Life: api.LifeRuns, PC: 3, SP: 184, Ops: []uint32{12, 4}},
		{Life: api.LifeRuns, PC: 4, SP: 184, Ops: []uint32{3}},
		{Life: api.LifeDone, PC: 4, SP: 192, Value: 3},
	} {
		next, turn, err := step.Step(m.Module, nil, s, nil)
		want.Data = data
		if err != api.OK || !sameTurn(turn, api.Turn{Took: true}) || !sameState(next, want) {
			t.Fatalf("%d: %+v, %+v, %d", i, next, turn, err)
		}
		s = next
	}
	next, turn, err := step.Step(m.Module, nil, s, nil)
	if err != api.OK || !sameTurn(turn, api.Turn{}) || !sameState(next, s) {
		t.Errorf("behind the end: %+v, %+v, %d", next, turn, err)
	}
}

// P18.4: the fourth example.
func TestExample4(t *testing.T) {
	m := sample(t)
	grants := []api.Grant{{Number: 2, Args: 1}}
	s := begun(t, m, 5)
	for range 2 {
		s, _, _ = step.Step(m.Module, grants, s, nil)
	}
	if s.PC != 7 || s.SP != 188 || !slices.Equal(s.Ops, []uint32{0xFFFFFFFD}) {
		t.Fatalf("%+v", s)
	}

	next, turn, err := step.Step(m.Module, grants, s, nil)
	asked := api.Event{At: 7, Number: 2, Args: []uint32{4294967295}, Value: 0}
	if err != api.OK || !sameState(next, s) || !sameTurn(turn, api.Turn{Waits: true, Event: asked}) {
		t.Errorf("without replies: %+v, %+v, %d", next, turn, err)
	}

	want := clonedState(s)
	want.PC, want.Ops, want.Data[200] = 8, []uint32{9}, 5
	asked.Value = 9
	next, turn, err = step.Step(m.Module, grants, s, []api.Reply{reply(9, write(200, 5))})
	if err != api.OK || !sameState(next, want) || !sameTurn(turn, api.Turn{Took: true, Made: true, Event: asked}) {
		t.Errorf("with a reply: %+v, %+v, %d", next, turn, err)
	}

	want = clonedState(s)
	want.Life, want.Fault = api.LifeFault, api.FaultSyscall
	next, turn, err = step.Step(m.Module, nil, s, nil)
	if err != api.OK || !sameState(next, want) || !sameTurn(turn, api.Turn{Took: true}) {
		t.Errorf("without the grant: %+v, %+v, %d", next, turn, err)
	}
}

// P18.2, P18.4: the fifth example.
func TestExample5(t *testing.T) {
	m := sample(t)
	s := tookMany(t, m, begun(t, m, 0, 7), 3)
	s.Ops = nil
	if s.PC != 3 || step.Fits(m.Module, s) {
		t.Errorf("PC %d fits", s.PC)
	}
	if next, turn, err := step.Step(m.Module, nil, s, nil); err != api.ErrState || !isZero(next) || !sameTurn(turn, api.Turn{}) {
		t.Errorf("%+v, %+v, %d", next, turn, err)
	}
}

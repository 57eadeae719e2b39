package run_test

import (
	"bytes"
	"testing"

	"playpen/api"
	"playpen/run"
)

// began gives the machine of the chapter's examples behind its Start, with its log on.
func began(t testing.TB, grants ...api.Grant) *run.Machine {
	t.Helper()
	x := machine(t, sample(t), grants...)
	x.Log(true)
	wantOK(t, x.Start(0, list(5, 6)))
	return x
}

// asked gives the event that waits there.
func asked(args ...uint32) api.Event { return api.Event{At: 5, Number: 1, Args: args} }

// P19.2, P19.3: the first example.
func TestExample1(t *testing.T) {
	x := began(t, grant(1, 1))
	data := append(make([]byte, 192), 0xFF, 0xFF, 0xFF, 0xFF, 5, 0, 0, 0, 6, 0, 0, 0)
	data = append(data, make([]byte, 13*4)...)
	wantState(t, x, api.State{Life: api.LifeRuns, SP: 192, Data: data})
	wantResult(t, x, 100, nil, api.Result{End: api.EndReply, At: 5, Used: 5, Ask: asked(5)})
	copy(data[188:], []byte{5, 0, 0, 0})
	wantState(t, x, api.State{Life: api.LifeRuns, PC: 5, SP: 184, Ops: list(0xFFFFFFFE), Data: data})
}

// P19.2, P19.3: the first example, instruction by instruction.
func TestExample1BySteps(t *testing.T) {
	x := began(t, grant(1, 1))
	data := x.State().Data
	for _, want := range []api.State{
		{PC: 1, SP: 184}, {PC: 2, SP: 184, Ops: list(196)}, {PC: 3, SP: 184, Ops: list(5)}, {PC: 4, SP: 184}, {PC: 5, SP: 184, Ops: list(0xFFFFFFFE)},
	} {
		want.Life, want.Data = api.LifeRuns, data
		if want.PC == 4 {
			put(data, 188, 5)
		}
		end := api.Result{End: api.EndFuel, At: want.PC, Used: 1}
		if want.PC == 5 {
			end.End, end.Ask = api.EndReply, asked(5)
		}
		wantResult(t, x, 1, nil, end)
		wantState(t, x, want)
	}
}

// P19.3, P19.4: the second example.
func TestExample2(t *testing.T) {
	x := began(t, grant(1, 1))
	x.Go(100, nil)
	wantResult(t, x, 0, nil, api.Result{End: api.EndReply, At: 5, Ask: asked(5)})
	wantResult(t, x, 0, replies(9), api.Result{End: api.EndFuel, At: 5})
	wantResult(t, x, 100, replies(9), api.Result{End: api.EndDone, At: 6, Value: 9, Used: 2, Replies: 1, Events: []api.Event{{At: 5, Number: 1, Args: list(5), Value: 9}}})
	s := x.State()
	data := append(make([]byte, 188), 5, 0, 0, 0, 0xFF, 0xFF, 0xFF, 0xFF, 5, 0, 0, 0, 6)
	data = append(data, make([]byte, 256-len(data))...)
	if s.Life != api.LifeDone || s.PC != 6 || s.SP != 192 || len(s.Ops) != 0 || s.Value != 9 || s.Fault != 0 || !bytes.Equal(s.Data, data) {
		t.Errorf("%+v", s)
	}
}

// P19.3: the third example.
func TestExample3(t *testing.T) {
	x := began(t, grant(1, 1))
	before := x.State()
	if r, err := x.Go(-1, nil); err != api.ErrFuel || !sameResult(r, api.Result{}) {
		t.Errorf("Go(-1): %+v, %d", r, err)
	}
	if r, err := x.Go(1, []api.Reply{tooMany()}); err != api.ErrReply || !sameResult(r, api.Result{}) {
		t.Errorf("Go of 17 writes: %+v, %d", r, err)
	}
	wantState(t, x, before)
}

// P19.3: the fourth example.
func TestExample4(t *testing.T) {
	x := began(t, grant(1, 2))
	wantResult(t, x, 100, nil, api.Result{End: api.EndReply, At: 5, Used: 5, Ask: asked(5, 4294967295)})
	x = began(t)
	wantResult(t, x, 100, nil, api.Result{End: api.EndFault, At: 5, Fault: api.FaultSyscall, Used: 6})
	wantResult(t, x, 100, nil, api.Result{End: api.EndFault, At: 5, Fault: api.FaultSyscall})
}

// P19.5: the fifth example.
func TestExample5(t *testing.T) {
	x := began(t, grant(1, 1))
	x.Go(100, nil)
	wantTouched(t, x, reads(196, 4), writes(188, 4))
	x.Go(100, replies(9))
	wantTouched(t, x, reads(188, 4), reads(192, 4))
	wantTouched(t, x)
}

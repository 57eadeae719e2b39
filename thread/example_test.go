package thread_test

import (
	"testing"

	"playpen/api"
	"playpen/run"
	"playpen/thread"
)

// engines gives the engines of the chapter's example 4: what New makes, and one of single instructions.
func engines(t testing.TB) map[string]run.Engine {
	t.Helper()
	m := example(t)
	return map[string]run.Engine{"New": machine(t, m), "single instructions": using(t, m, singles(m)), "a crew": crewOf(t, m)}
}

// startData gives the data behind a Start with one argument.
func startData(arg uint32) []byte {
	data := make([]byte, 256)
	put(data, 192, api.DoneMark)
	put(data, 196, arg)
	return data
}

// The chapter's example 1.
func TestExample1(t *testing.T) {
	for what, x := range engines(t) {
		x.Log(true)
		wantOK(t, x.Start(0, list(3)))
		wantState(t, x, api.State{Life: api.LifeRuns, SP: 192, Data: startData(3)})
		wantResult(t, x, 100, nil, api.Result{End: api.EndDone, Used: 11, At: 13})
		data := startData(3)
		put(data, 188, 5)
		wantState(t, x, api.State{Life: api.LifeDone, PC: 13, SP: 192, Data: data})
		wantTouched(t, x, writes(188, 4), reads(196, 4), reads(192, 4))
		if t.Failed() {
			t.Fatal(what)
		}
	}
}

// The chapter's example 2.
func TestExample2(t *testing.T) {
	for what, x := range engines(t) {
		wantOK(t, x.Start(0, list(3)))
		wantResult(t, x, 3, nil, api.Result{End: api.EndFuel, At: 3, Used: 3})
		wantState(t, x, api.State{Life: api.LifeRuns, PC: 3, SP: 184, Ops: list(2, 3), Data: startData(3)})
		wantResult(t, x, 1, nil, api.Result{End: api.EndFuel, At: 4, Used: 1})
		wantState(t, x, api.State{Life: api.LifeRuns, PC: 4, SP: 184, Ops: list(5), Data: startData(3)})
		wantResult(t, x, 100, nil, api.Result{End: api.EndDone, Used: 7, At: 13})
		if t.Failed() {
			t.Fatal(what)
		}
	}
}

// The chapter's example 3.
func TestExample3(t *testing.T) {
	for what, x := range engines(t) {
		wantOK(t, x.Start(0, list(20)))
		wantResult(t, x, 11, nil, api.Result{End: api.EndFuel, At: 0, Used: 11})
		data := startData(20)
		put(data, 188, 5)
		put(data, 184, 11)
		wantState(t, x, api.State{Life: api.LifeRuns, PC: 0, SP: 184, Data: data})
		wantResult(t, x, 1, nil, api.Result{End: api.EndFuel, At: 1, Used: 1})
		if s := x.State(); s.SP != 176 {
			t.Errorf("SP %d", s.SP)
		}
		wantResult(t, x, 10, nil, api.Result{End: api.EndFuel, At: 11, Used: 10})
		put(data, 180, 5)
		wantState(t, x, api.State{Life: api.LifeRuns, PC: 11, SP: 184, Ops: list(0), Data: data})
		wantResult(t, x, 100, nil, api.Result{End: api.EndDone, At: 13, Used: 3})

		wantOK(t, x.Start(0, list(20)))
		wantResult(t, x, 100, nil, api.Result{End: api.EndDone, At: 13, Used: 25})
		if t.Failed() {
			t.Fatal(what)
		}
	}
}

// The chapter's example 4: the same with single instructions stands in the others; with To 7 in the place of 6 the code is refused.
func TestExample4(t *testing.T) {
	m := example(t)
	code := translated(t, m)
	if code.Cells[3].To != 6 {
		t.Fatal(code)
	}
	code.Cells[3].To = 7
	if x, place, err := thread.Use(m.Module, nil, code); x != nil || place != 3 || err != api.ErrCell {
		t.Errorf("%v, %d, %d", x != nil, place, err)
	}
}

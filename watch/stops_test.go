package watch_test

import (
	"slices"
	"testing"

	"playpen/api"
	"playpen/run"
)

// P26.3, R2: the errors of each call that goes on, in their order, at each Life; nothing has changed, and the stop is zero.
func TestGoErrors(t *testing.T) {
	m := sample(t)
	wrong := [][]api.Reply{{tooMany()}, {tooLong()}, {reply(1), tooMany()}, append(replies(1, 2, 3, 4, 5), tooLong())}
	for life, s := range lived(m) {
		x := watchOf(t, m, grant(1, 1))
		wantOK(t, x.Put(s))
		wantAdd(t, x, point(api.PointAt, 9), 0)
		before := heldBy(x)
		for what, call := range ways() {
			refused := func(fuel int, given []api.Reply, want api.Errno) {
				t.Helper()
				if what == "Next" && want == api.ErrFuel {
					return
				}
				if got, err := call(x, fuel, given); err != want || !sameStop(got, api.Stop{}) {
					t.Errorf("Life %d: %s(%d): %+v, %d; want %d", life, what, fuel, got, err, want)
				}
				wantHeld(t, x, before)
			}
			for _, fuel := range []int{-1, -65536, -1 << 63, 65537, 1<<63 - 1} {
				for _, given := range append(wrong, nil, replies(1)) {
					refused(fuel, given, api.ErrFuel)
				}
			}
			for _, fuel := range []int{0, 1, 2, 65536} {
				for _, given := range wrong {
					refused(fuel, given, api.ErrReply)
				}
			}
		}
	}
}

// P26.3: a reply of the most writes of the most bytes is none that is refused.
func TestMostReply(t *testing.T) {
	most := reply(5)
	for i := range 16 {
		most.Writes = append(most.Writes, write(uint32(i), make([]byte, 256)...))
	}
	for what, call := range ways() {
		x := begun(t, asker(t), 0, nil, grant(1, 1), grant(2, 2))
		x.Go(4, nil)
		got, err := call(x, 1, []api.Reply{most})
		if err != api.OK || got.Result.Used != 1 || got.Result.Replies != 1 {
			t.Errorf("%s: %+v, %d", what, got, err)
		}
	}
}

// P26.3: of several points that one instruction meets the least number is told, whatever was dropped; and the next stop is the next instruction's.
func TestLeastNumber(t *testing.T) {
	x := begun(t, sample(t), 0, nil)
	met := []api.Point{span(api.PointWrite, 188, 4), when(188, api.OpEq, 41), point(api.PointAt, 3)}
	wantAdd(t, x, point(api.PointAt, 9), 0)
	for i := range 9 {
		wantAdd(t, x, met[i%3], i+1)
	}
	for i := range 9 {
		wantOK(t, x.Start(0, nil))
		wantGo(t, x, 100, nil, stopped(api.StopPoint, i+1, 3, 3))
		wantGo(t, x, 100, nil, stopped(api.StopPoint, 0, 5, 9))
		wantOK(t, x.Drop(i+1))
		data := x.State()
		put(data.Data, 188, 0)
		wantOK(t, x.Put(data))
	}
	wantOK(t, x.Start(0, nil))
	wantGo(t, x, 100, nil, stopped(api.StopPoint, 0, 8, 9))
}

// P26.3: the result is that of a Go with as much fuel as was used: where it stops ahead of a call that waits it asks, as long as no reply is left; where one is, it does not.
func TestResultAtAStop(t *testing.T) {
	grants := []api.Grant{grant(1, 1), grant(2, 2)}
	ask, made := event(4, 1, 0, 7), event(4, 1, 9, 7)
	for replied := range 3 {
		given := replies(9, 8)[:replied]
		x := begun(t, asker(t), 0, nil, grants...)
		wantAdd(t, x, point(api.PointAt, 4), 0)
		want := stopped(api.StopPoint, 0, 4, 4)
		if replied == 0 {
			want.Result.End, want.Result.Ask = api.EndReply, ask
		}
		wantGo(t, x, 100, given, want)

		x = begun(t, asker(t), 0, nil, grants...)
		x.Go(3, nil)
		want = stopped(api.StopStep, 0, 1, 4)
		if replied == 0 {
			want.Result.End, want.Result.Ask = api.EndReply, ask
		}
		wantNext(t, x, given, want)

		// Two calls, the one behind the other: the reply to the first one is the number of the second one, -1 - 4.
		y := begun(t, module(t, 128, "0 enter 8, 1 const -2, 2 call, 3 call, 4 leave 8"), 0, nil, grant(1, 0), grant(4, 1))
		y.Go(2, nil)
		wantAdd(t, y, point(api.PointCall, 1), 0)
		if replied == 0 {
			wantGo(t, y, 9, given, ended(api.Result{End: api.EndReply, At: 2, Ask: event(2, 1, 0)}))
			continue
		}
		given = append([]api.Reply{reply(0xFFFFFFFB)}, given[1:]...)
		first := event(2, 1, 0xFFFFFFFB)
		result := api.Result{End: api.EndFuel, At: 3, Used: 1, Replies: 1, Events: []api.Event{first}}
		if replied == 1 {
			result.End, result.Ask = api.EndReply, event(3, 4, 0, 0)
		}
		wantGo(t, y, 9, given, api.Stop{Kind: api.StopPoint, Result: result})
	}
	x := begun(t, asker(t), 0, nil, grants...)
	wantAdd(t, x, point(api.PointCall, 1), 0)
	wantGo(t, x, 100, replies(9), api.Stop{Kind: api.StopPoint, Result: api.Result{End: api.EndFuel, At: 5, Used: 5, Replies: 1, Events: []api.Event{made}}})
}

// P26.3: where a run is at its end, or meets a fault, by the instruction that meets a point, the result says so.
func TestResultAtTheEnd(t *testing.T) {
	x := begun(t, sample(t), 0, nil)
	wantAdd(t, x, span(api.PointRead, 192, 1), 0)
	done := api.Result{End: api.EndDone, At: 5, Value: 41, Used: 10}
	wantGo(t, x, 100, nil, api.Stop{Kind: api.StopPoint, Result: done})
	done.Used = 0
	for what, call := range ways() {
		got, err := call(x, 100, nil)
		wantStop(t, what, got, err, ended(done))
	}
	fault := module(t, 128, "0 enter 8, 1 const 5, 2 arg 1, 3 const 5, 4 leave 8")
	x = begun(t, fault, 0, nil)
	wantAdd(t, x, span(api.PointRead, 192, 1), 0)
	broken := api.Result{End: api.EndFault, At: 4, Fault: api.FaultReturn, Used: 5}
	wantGo(t, x, 100, nil, api.Stop{Kind: api.StopPoint, Result: broken})
	broken.Used = 0
	for what, call := range ways() {
		got, err := call(x, 100, nil)
		wantStop(t, what, got, err, ended(broken))
	}
}

// P26.3: without points, and without an end, Go is the engine's, with every fuel; what is not reached with the fuel is not met.
func TestGoWithEachFuel(t *testing.T) {
	m := sample(t)
	for fuel := range 14 {
		engine, err := run.New(m.Module, nil)
		wantOK(t, err)
		wantOK(t, engine.Start(0, nil))
		r, _ := engine.Go(fuel, nil)
		wantGo(t, begun(t, m, 0, nil), fuel, nil, ended(r))
		for at := range uint32(10) {
			x := begun(t, m, 0, nil)
			wantAdd(t, x, point(api.PointAt, at), 0)
			used := slices.Index(list(0, 1, 2, 3, 4, 6, 7, 8, 9, 5), at)
			want := stopped(api.StopPoint, 0, used, at)
			if at == 0 || used > fuel {
				want = ended(r)
			}
			wantGo(t, x, fuel, nil, want)
		}
	}
}

// P26.3: Next takes one instruction, whatever points there are, until there is none to take.
func TestNext(t *testing.T) {
	x := begun(t, sample(t), 0, nil)
	for i := range uint32(10) {
		wantAdd(t, x, point(api.PointAt, i), int(i))
	}
	wantAdd(t, x, span(api.PointRead, 0, 256), 10)
	wantAdd(t, x, span(api.PointWrite, 0, 256), 11)
	for _, at := range list(1, 2, 3, 4, 6, 7, 8, 9, 5) {
		wantNext(t, x, nil, stopped(api.StopStep, 0, 1, at))
	}
	wantNext(t, x, nil, api.Stop{Kind: api.StopStep, Result: api.Result{End: api.EndDone, At: 5, Value: 41, Used: 1}})
	wantNext(t, x, nil, ended(api.Result{End: api.EndDone, At: 5, Value: 41}))

	x = begun(t, asker(t), 0, nil, grant(1, 1))
	x.Go(4, nil)
	wantNext(t, x, nil, ended(api.Result{End: api.EndReply, At: 4, Ask: event(4, 1, 0, 7)}))
	wantNext(t, x, replies(3, 4), api.Stop{Kind: api.StopStep, Result: api.Result{End: api.EndFuel, At: 5, Used: 1, Replies: 1, Events: []api.Event{event(4, 1, 3, 7)}}})
	x.Go(3, nil)
	wantNext(t, x, replies(3), api.Stop{Kind: api.StopStep, Result: api.Result{End: api.EndFault, At: 8, Fault: api.FaultSyscall, Used: 1}})
	wantNext(t, x, replies(3), ended(api.Result{End: api.EndFault, At: 8, Fault: api.FaultSyscall}))
}

// P26.3: Over takes one instruction, and all of a procedure that it calls, however deep that goes; with too little fuel it goes on as far as that leads.
func TestOver(t *testing.T) {
	for n := range uint32(5) {
		// From the outermost call on: the way in and out of n - 1 calls, and the turn.
		inside := 1 + 12*(int(n)-1) + 7 + 2*(int(n)-1)
		for fuel := range inside + 3 {
			x := begun(t, nester(t), 0, list(n))
			if n == 0 {
				continue
			}
			for i := range uint32(11) {
				wantOver(t, x, 1+fuel, nil, stopped(api.StopStep, 0, 1, []uint32{1, 2, 3, 4, 5, 6, 7, 8, 9, 10, 11}[i]))
			}
			got, err := x.Over(fuel, nil)
			if fuel < inside {
				y := begun(t, nester(t), 0, list(n))
				r, _ := y.Go(11+fuel, nil)
				r.Result.Used = fuel
				wantStop(t, "Over", got, err, ended(r.Result))
				wantTrail(t, x, y.Trail()...)
				continue
			}
			wantStop(t, "Over", got, err, stopped(api.StopStep, 0, inside, 12))
			wantTrail(t, x, api.Frame{})
			wantOver(t, x, 9, nil, stopped(api.StopStep, 0, 1, 14))
			wantOver(t, x, 9, nil, api.Stop{Kind: api.StopStep, Result: api.Result{End: api.EndDone, At: 14, Value: 5, Used: 1}})
		}
	}
}

// P26.3: Over at an inner leave comes to the one that has called; at a system call it takes that alone; where it meets a fault it stops there, in a procedure that was called too.
func TestOverElsewhere(t *testing.T) {
	x := begun(t, sample(t), 0, nil)
	x.Go(8, nil)
	wantOver(t, x, 100, nil, stopped(api.StopStep, 0, 1, 5))

	x = begun(t, asker(t), 0, nil, grant(1, 1), grant(2, 2))
	x.Go(4, nil)
	wantOver(t, x, 100, nil, ended(api.Result{End: api.EndReply, At: 4, Ask: event(4, 1, 0, 7)}))
	wantOver(t, x, 100, replies(3), api.Stop{Kind: api.StopStep, Result: api.Result{End: api.EndFuel, At: 5, Used: 1, Replies: 1, Events: []api.Event{event(4, 1, 3, 7)}}})

	m := module(t, 128, "0 enter 4, 1 const 4, 2 call, 3 leave 4, 4 enter 4, 5 break")
	x = begun(t, m, 0, nil)
	x.Go(2, nil)
	wantOver(t, x, 100, nil, ended(api.Result{End: api.EndFault, At: 5, Fault: api.FaultBreak, Used: 3}))
	wantTrail(t, x, api.Frame{Begin: 4, From: 2}, api.Frame{})
	x = begun(t, m, 4, nil)
	x.Go(1, nil)
	wantOver(t, x, 100, nil, api.Stop{Kind: api.StopStep, Result: api.Result{End: api.EndFault, At: 5, Fault: api.FaultBreak, Used: 1}})
	wantTrail(t, x, api.Frame{Begin: 4})

	wait := module(t, 128, "0 enter 4, 1 const 4, 2 call, 3 leave 4, 4 enter 4, 5 const -1, 6 call, 7 leave 4")
	x = begun(t, wait, 0, nil, grant(0, 0))
	x.Go(2, nil)
	wantOver(t, x, 100, nil, ended(api.Result{End: api.EndReply, At: 6, Used: 3, Ask: event(6, 0, 0)}))
	wantOut(t, x, 100, replies(8), api.Stop{Kind: api.StopStep, Result: api.Result{End: api.EndFuel, At: 3, Used: 2, Replies: 1, Events: []api.Event{event(6, 0, 8)}}})
}

// P26.3: Out at every depth of a run comes back to the procedure that has called; from the outermost one to the end.
func TestOut(t *testing.T) {
	const deep = 4
	for fuel := range 12*deep + 7 {
		x := begun(t, nester(t), 0, list(deep))
		x.Go(fuel, nil)
		depth := len(x.Trail())
		for left := depth; left > 0; left-- {
			got, err := x.Out(1000, nil)
			if err != api.OK || got.Kind != api.StopStep || len(x.Trail()) != left-1 {
				t.Fatalf("fuel %d, %d frames: %+v, %d, %v", fuel, left, got, err, x.Trail())
			}
			if left > 1 && (got.Result.At != 12 || got.Result.End != api.EndFuel) || left == 1 && got.Result.End != api.EndDone {
				t.Fatalf("%+v", got)
			}
			if left < depth && got.Result.Used != 2 {
				t.Fatalf("%+v", got)
			}
		}
		wantOut(t, x, 1000, nil, ended(api.Result{End: api.EndDone, At: 14, Value: 5}))
	}
}

// P26.3: a point goes ahead of the step, where one instruction is both; and Over and Out stop at points on their way.
func TestPointAheadOfStep(t *testing.T) {
	x := begun(t, sample(t), 0, nil)
	wantAdd(t, x, point(api.PointAt, 5), 0)
	wantAdd(t, x, point(api.PointAt, 8), 1)
	for range 2 {
		wantOK(t, x.Start(0, nil))
		for range 4 {
			x.Next(nil)
		}
		wantOver(t, x, 100, nil, stopped(api.StopPoint, 1, 3, 8))
		wantOver(t, x, 100, nil, stopped(api.StopStep, 0, 1, 9))
		wantOver(t, x, 100, nil, stopped(api.StopPoint, 0, 1, 5))

		wantOK(t, x.Start(0, nil))
		for range 5 {
			x.Next(nil)
		}
		wantOut(t, x, 100, nil, stopped(api.StopPoint, 1, 2, 8))
		wantOut(t, x, 100, nil, stopped(api.StopPoint, 0, 2, 5))
	}
	wantOK(t, x.Drop(0))
	wantOK(t, x.Start(0, nil))
	for range 7 {
		x.Next(nil)
	}
	wantOut(t, x, 100, nil, stopped(api.StopStep, 0, 2, 5))
}

// P26.3: without fuel nothing is done, and the result says how the run stands.
func TestNoFuel(t *testing.T) {
	for cut := range 5 {
		for what, call := range ways() {
			if what == "Next" {
				continue
			}
			x := begun(t, asker(t), 0, nil, grant(1, 1))
			wantAdd(t, x, point(api.PointAt, uint32(cut)), 0)
			for range cut {
				x.Next(nil)
			}
			before := heldBy(x)
			for _, given := range [][]api.Reply{nil, replies(1)} {
				want := ended(api.Result{End: api.EndFuel, At: uint32(cut)})
				if cut == 4 && given == nil {
					want.Result.End, want.Result.Ask = api.EndReply, event(4, 1, 0, 7)
				}
				got, err := call(x, 0, given)
				wantStop(t, what, got, err, want)
				wantHeld(t, x, before)
			}
		}
	}
}

// P26.3, P26.7: the most fuel, with a point that is met at its last instruction, and one that is never met.
func TestMostFuel(t *testing.T) {
	m := counter(t)
	x := begun(t, m, 0, nil)
	// Seven instructions a round: behind 1 + 7n the run is at 1, and the word at 0 is n.
	wantAdd(t, x, when(0, api.OpEq, 9362), 0)
	r, err := x.Go(65536, nil)
	wantStop(t, "Go", r, err, stopped(api.StopPoint, 0, 65534, 7))
	wantOK(t, x.Start(0, nil))
	if at, _ := x.Word(0); at != 9362 {
		t.Errorf("the word at 0 is %d", at)
	}
	wantGo(t, x, 65536, nil, ended(api.Result{End: api.EndFuel, At: 2, Used: 65536}))
	wantOver(t, x, 65536, nil, stopped(api.StopStep, 0, 1, 3))
	wantOut(t, x, 65536, nil, ended(api.Result{End: api.EndFuel, At: 5, Used: 65536}))
}

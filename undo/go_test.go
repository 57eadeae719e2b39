package undo_test

import (
	"slices"
	"testing"

	"playpen/api"
	"playpen/run"
)

// P25.3: of so many instructions that are taken as many are kept, but no more than keep, whether by one Go or by several.
func TestKeeps(t *testing.T) {
	for _, keep := range []int{1, 2, 3, 4, 5, 7, 30} {
		for fuel := range 20 {
			x := runOf(t, counter(t), keep)
			wantOK(t, x.Start(0, nil))
			x.Go(fuel, nil)
			wantPast(t, x, min(fuel, keep), 0)
			y := runOf(t, counter(t), keep)
			wantOK(t, y.Start(0, nil))
			for i := range fuel {
				y.Go(1, nil)
				wantPast(t, y, min(i+1, keep), 0)
			}
			wantHeld(t, y, heldBy(x))
		}
	}
}

// P25.3, P25.10: those that are kept are the last ones, at each length of the ring and at each place in it.
func TestTheOldestIsDropped(t *testing.T) {
	m := counter(t)
	for keep := 1; keep <= 9; keep++ {
		p := newPair(t, m, keep)
		wantOK(t, p.Start(0, nil))
		for range 30 {
			p.Go(1, nil)
			p.scan()
		}
	}
}

// P25.1, P25.3, P25.4, P25.5, P25.10: the most that is kept, and the most fuel.
func TestMostKeep(t *testing.T) {
	for _, keep := range []int{65535, 65536} {
		x := runOf(t, counter(t), keep)
		wantOK(t, x.Start(0, nil))
		var ahead [2]held
		for i := range ahead {
			x.Go(65536-keep, nil)
			ahead[i] = heldBy(x)
			if r, err := x.Go(keep, nil); err != api.OK || r.End != api.EndFuel || r.Used != keep || r.At != x.State().PC {
				t.Errorf("Go(%d): %+v, %d", keep, r, err)
			}
			wantPast(t, x, keep, 0)
		}
		behind := heldBy(x)
		wantErr(t, "Back", x.Back(keep+1), api.ErrBack)
		wantOK(t, x.Back(keep))
		wantPast(t, x, 0, keep)
		wantState(t, x, ahead[1].state)
		wantErr(t, "Again", x.Again(keep+1), api.ErrAgain)
		wantOK(t, x.Again(keep))
		wantHeld(t, x, behind)
		wantOK(t, x.Back(keep-1))
		x.Go(keep-1, nil)
		wantHeld(t, x, behind)
	}
}

// P25.3: a Go is that of the engine, result and state, whatever is kept: fuel, replies, waits, ends.
func TestGoIsTheEngines(t *testing.T) {
	ends := map[api.End]int{}
	for round := range uint64(400) {
		d := newDice(1000 + round)
		m := d.someModule(20)
		grants := d.someGrants()
		x := runOf(t, m, 1+d.upTo(8), grants...)
		y, err := run.New(m.Module, grants)
		wantOK(t, err)
		for range 3 {
			at, args := d.someBegin(m), d.someArgs()
			wantOK(t, x.Start(at, args))
			wantOK(t, y.Start(at, args))
			for range 5 {
				fuel, given := d.upTo(50), d.someReplies(4)
				want, err := y.Go(fuel, given)
				wantOK(t, err)
				wantResult(t, x, fuel, given, want)
				wantState(t, x, y.State())
				ends[want.End]++
			}
		}
	}
	for end, least := range map[api.End]int{api.EndDone: 100, api.EndFault: 100, api.EndFuel: 100, api.EndReply: 50} {
		if ends[end] < least {
			t.Errorf("ends %v", ends)
		}
	}
}

// P25.3: the errors of a Go, in their order, at each Life; nothing beside them, and nothing changes: what is undone stays so.
func TestGoErrors(t *testing.T) {
	for fuel := range 9 {
		x := began(t, 4)
		x.Go(fuel, replies(9))
		wantOK(t, x.Back(x.Past().Back/2))
		before := heldBy(x)
		for _, given := range [][]api.Reply{nil, replies(1), {tooMany()}, {reply(1), tooLong()}} {
			for _, much := range []int{-1, api.MaxFuel + 1, -1 << 63, 1<<63 - 1} {
				if r, err := x.Go(much, given); err != api.ErrFuel || !sameResult(r, api.Result{}) {
					t.Errorf("Go(%d): %+v, %d", much, r, err)
				}
			}
		}
		for _, much := range []int{0, 1, api.MaxFuel} {
			for _, given := range [][]api.Reply{{tooMany()}, {tooLong()}, {reply(1), tooLong()}, append(replies(1, 2, 3, 4), tooMany())} {
				if r, err := x.Go(much, given); err != api.ErrReply || !sameResult(r, api.Result{}) {
					t.Errorf("Go(%d): %+v, %d", much, r, err)
				}
			}
		}
		wantHeld(t, x, before)
	}
}

// P25.3: a Go that takes nothing (no fuel, a call that waits, no run, one at its end or at a fault) leaves what is kept, and what is undone.
func TestNothingTaken(t *testing.T) {
	x := runOf(t, asker(t), 20, grant(1, 1), grant(2, 2))
	wantResult(t, x, 5, replies(1), api.Result{End: api.EndIdle})
	wantHeld(t, x, held{state: x.State()})
	wantOK(t, x.Start(0, nil))
	x.Go(9, replies(1, 2))
	wantOK(t, x.Back(1))
	before := heldBy(x)
	for range 3 {
		wantResult(t, x, 0, nil, api.Result{End: api.EndReply, At: 8, Ask: event(8, 2, 0, 7, 1)})
		wantResult(t, x, 100, nil, api.Result{End: api.EndReply, At: 8, Ask: event(8, 2, 0, 7, 1)})
		wantResult(t, x, 0, replies(1), api.Result{End: api.EndFuel, At: 8})
	}
	wantHeld(t, x, before)
	if before.past != (api.Past{Back: 8, Again: 1}) {
		t.Errorf("%+v", before.past)
	}
	wantOK(t, x.Again(1))
	wantResult(t, x, 100, replies(3), api.Result{End: api.EndDone, At: 12, Value: 3, Used: 4, Replies: 1, Events: []api.Event{event(11, 1, 3, 7)}})
	before = heldBy(x)
	wantResult(t, x, 100, replies(3), api.Result{End: api.EndDone, At: 12, Value: 3})
	wantHeld(t, x, before)
	fault := runOf(t, asker(t), 20)
	wantOK(t, fault.Start(0, nil))
	fault.Go(100, nil)
	before = heldBy(fault)
	wantResult(t, fault, 100, replies(3), api.Result{End: api.EndFault, At: 4, Fault: api.FaultSyscall})
	wantHeld(t, fault, before)
}

// P25.3, P25.9: as soon as a Go takes one instruction, nothing is undone any more, however many were; those that are kept still are.
func TestNothingIsUndoneAnyMore(t *testing.T) {
	for _, keep := range []int{1, 2, 5, 12, 13, 40} {
		for back := range min(keep, 12) + 1 {
			for fuel := 1; fuel < 6; fuel++ {
				p := newPair(t, counter(t), keep)
				wantOK(t, p.Start(0, nil))
				p.Go(12, nil)
				wantOK(t, p.Back(back))
				p.Go(fuel, nil)
				wantPast(t, p.run, min(keep, min(keep, 12)-back+fuel), 0)
				wantErr(t, "Again(1)", p.Again(1), api.ErrAgain)
				p.scan()
			}
		}
	}
}

// P25.3, P25.6: the events of each Go stand behind those that were there, also those of instructions that are not kept any more.
func TestEventsStay(t *testing.T) {
	m := module(t, 128, "0 enter 8, 1 const -1, 2 call, 3 arg 0, 4 goto 1")
	for _, keep := range []int{1, 2, 3, 4, 5, 50} {
		x := runOf(t, m, keep, grant(0, 1))
		wantOK(t, x.Start(0, nil))
		var all []api.Event
		for i := range uint32(9) {
			r, err := x.Go(4, replies(100+i, 200))
			if err != api.OK || len(r.Events) != 1 || r.Replies != 1 {
				t.Fatalf("%+v, %d", r, err)
			}
			all = append(all, r.Events...)
			wantEvents(t, x, all...)
		}
		back := min(keep, 6)
		wantOK(t, x.Back(back))
		// The calls are the second of the last four instructions, and the sixth.
		gone := (back + 2) / 4
		wantEvents(t, x, all[:9-gone]...)
		wantOK(t, x.Again(back))
		wantEvents(t, x, all...)
		if all[8].Value != 108 || !slices.Equal(all[8].Args, list(107)) {
			t.Errorf("%v", all[8])
		}
	}
}

package thread_test

import (
	"testing"

	"playpen/api"
)

// turning gives a module that goes on for ever, a call's word on its way; 5 is reached too.
func turning(t testing.TB) made {
	t.Helper()
	return module(t, 128, "0 enter 4, 1 const 1, 2 const 2, 3 eq 5, 4 goto 1, 5 const 3, 6 leave 4")
}

// lived gives a state of each Life that fits that module; the running one goes on for ever.
func lived(m made) map[api.Life]api.State {
	data := filled(m.size())
	return map[api.Life]api.State{
		api.LifeIdle:  {Life: api.LifeIdle, SP: 192, Data: data},
		api.LifeRuns:  {Life: api.LifeRuns, PC: 2, SP: 188, Ops: list(8, 1), Data: data},
		api.LifeDone:  {Life: api.LifeDone, PC: 6, SP: 192, Ops: list(8), Data: data, Value: 7},
		api.LifeFault: {Life: api.LifeFault, PC: 3, SP: 188, Ops: list(8, 1, 2), Data: data, Fault: api.FaultDeep},
	}
}

// P24.3: Go of each Life, with each edge of the fuel, with and without replies that are not used: an error and nothing beside it, or how the run stands; and nothing has changed by it.
func TestEveryLifeWithEveryFuel(t *testing.T) {
	m := turning(t)
	still := map[api.Life]api.Result{
		api.LifeIdle:  {End: api.EndIdle},
		api.LifeDone:  {End: api.EndDone, At: 6, Value: 7},
		api.LifeFault: {End: api.EndFault, At: 3, Fault: api.FaultDeep},
	}
	for life, s := range lived(m) {
		for _, fuel := range []int{-1 << 63, -65536, -2, -1, 0, 1, 2, api.MaxFuel - 1, api.MaxFuel, api.MaxFuel + 1, 1<<63 - 1} {
			for _, given := range [][]api.Reply{nil, {}, replies(1, 2)} {
				x := crewOf(t, m, grant(0, 0))
				x.Log(true)
				wantOK(t, x.Put(s))
				got, err := x.Go(fuel, given)
				want, wantErr := still[life], api.OK
				if life == api.LifeRuns {
					// Four instructions lead round: 2, 3, 4, 1.
					want = api.Result{End: api.EndFuel, At: []uint32{2, 3, 4, 1}[max(fuel, 0)%4], Used: fuel}
				}
				if fuel < 0 || fuel > 65536 {
					want, wantErr = api.Result{}, api.ErrFuel
				}
				if err != wantErr || !sameResult(got, want) {
					t.Errorf("Life %d: Go(%d): %+v, %d; want %+v, %d", life, fuel, got, err, want, wantErr)
				}
				if got.Used == 0 {
					wantState(t, x, s)
				}
				wantTouched(t, x)
			}
		}
	}
}

// P24.3: a Go of the most fuel takes as many instructions, and a run is at its end with just as much as it needs.
func TestMostFuel(t *testing.T) {
	m := module(t, 128, `0 enter 8, 1 local 0, 2 local 12, 3 load4, 4 store4,
		5 local 0, 6 load4, 7 const 0, 8 eq 16, 9 local 0, 10 local 0, 11 load4, 12 const 1, 13 sub, 14 store4, 15 goto 5, 16 const 77, 17 leave 8`)
	// A round takes 11 instructions; around them are 5, the last test of 4, and 2.
	for _, rounds := range []int{0, 1, 5000, 5956, 5957} {
		all := 5 + rounds*11 + 4 + 2
		x := crewOf(t, m)
		for _, fuel := range []int{all - 1, all, all + 1, api.MaxFuel} {
			if fuel > api.MaxFuel {
				continue
			}
			wantOK(t, x.Start(0, list(uint32(rounds))))
			want := api.Result{End: api.EndDone, At: 17, Value: 77, Used: all}
			if fuel < all {
				want = api.Result{End: api.EndFuel, At: 17, Used: fuel}
			}
			if fuel < all-1 {
				continue
			}
			wantResult(t, x, fuel, nil, want)
			if want.End == api.EndFuel {
				wantResult(t, x, 0, nil, api.Result{End: api.EndFuel, At: 17})
				wantResult(t, x, 1, nil, api.Result{End: api.EndDone, At: 17, Value: 77, Used: 1})
			}
		}
	}
}

// asker gives a module that asks the host three times, of the numbers 1, 2 and 1, and answers the last value.
func asker(t testing.TB) made {
	t.Helper()
	return module(t, 128, `0 enter 12, 1 const 65, 2 arg 0, 3 const -2, 4 call, 5 arg 1, 6 const -3, 7 call, 8 arg 0, 9 const -2, 10 call, 11 leave 12`)
}

// P24.3: the events of a Go in their order, and each beside its own reply; replies that are left are not counted.
func TestEventsInOrder(t *testing.T) {
	for more := range 3 {
		x := crewOf(t, asker(t), grant(2, 2), grant(1, 1))
		wantOK(t, x.Start(0, nil))
		given := append(replies(10, 20, 30), replies(40, 50)[:more]...)
		wantResult(t, x, 100, given, api.Result{End: api.EndDone, At: 11, Value: 30, Used: 12, Replies: 3, Events: []api.Event{
			{At: 4, Number: 1, Args: list(65), Value: 10},
			{At: 7, Number: 2, Args: list(65, 10), Value: 20},
			{At: 10, Number: 1, Args: list(20), Value: 30},
		}})
	}
}

// P24.3: a Go that waits, called again without a reply, with one, with more than are used; the events and the numbers are those of one Go.
func TestWaitsAndGoesOn(t *testing.T) {
	x := crewOf(t, asker(t), grant(2, 2), grant(1, 1))
	wantOK(t, x.Start(0, nil))
	first := api.Event{At: 4, Number: 1, Args: list(65)}
	wantResult(t, x, 100, nil, api.Result{End: api.EndReply, At: 4, Used: 4, Ask: first})
	for _, fuel := range []int{0, 1, 100, api.MaxFuel} {
		before := x.State()
		wantResult(t, x, fuel, nil, api.Result{End: api.EndReply, At: 4, Ask: first})
		wantResult(t, x, fuel, []api.Reply{}, api.Result{End: api.EndReply, At: 4, Ask: first})
		wantState(t, x, before)
	}
	first.Value = 10
	second := api.Event{At: 7, Number: 2, Args: list(65, 10)}
	wantResult(t, x, 100, replies(10), api.Result{End: api.EndReply, At: 7, Used: 3, Replies: 1, Events: []api.Event{first}, Ask: second})
	second.Value = 20
	third := api.Event{At: 10, Number: 1, Args: list(20), Value: 30}
	wantResult(t, x, 100, replies(20, 30, 40), api.Result{End: api.EndDone, At: 11, Value: 30, Used: 5, Replies: 2, Events: []api.Event{second, third}})
	wantResult(t, x, 100, replies(20, 30, 40), api.Result{End: api.EndDone, At: 11, Value: 30})
}

// P24.3: whether a call waits is looked at ahead of the fuel: without a reply it waits, with fuel or not; with one, and without fuel, the fuel is used up.
func TestWaitAheadOfFuel(t *testing.T) {
	ask := api.Event{At: 4, Number: 1, Args: list(65)}
	for fuel := range 8 {
		x := crewOf(t, asker(t), grant(1, 1), grant(2, 0))
		wantOK(t, x.Start(0, nil))
		want := api.Result{End: api.EndFuel, At: uint32(fuel), Used: fuel}
		if fuel >= 4 {
			want = api.Result{End: api.EndReply, At: 4, Used: 4, Ask: ask}
		}
		wantResult(t, x, fuel, nil, want)

		wantOK(t, x.Start(0, nil))
		want = api.Result{End: api.EndFuel, At: uint32(fuel), Used: fuel}
		made := ask
		made.Value = 9
		if fuel > 4 {
			want.Replies, want.Events = 1, []api.Event{made}
		}
		if fuel == 7 {
			want.End, want.Ask = api.EndReply, api.Event{At: 7, Number: 2}
		}
		wantResult(t, x, fuel, replies(9), want)
	}
}

// P24.3: a system call of a number that is not granted does not wait: it is a fault, if there is fuel, with replies too; none of them is used.
func TestNotGranted(t *testing.T) {
	for _, given := range [][]api.Reply{nil, replies(1, 2)} {
		for _, grants := range [][]api.Grant{nil, {grant(2, 1), grant(0, 0), grant(1<<31-1, 3)}} {
			x := crewOf(t, asker(t), grants...)
			wantOK(t, x.Start(0, nil))
			wantResult(t, x, 4, given, api.Result{End: api.EndFuel, At: 4, Used: 4})
			wantResult(t, x, 0, given, api.Result{End: api.EndFuel, At: 4})
			before := x.State()
			wantResult(t, x, 1, given, api.Result{End: api.EndFault, At: 4, Fault: api.FaultSyscall, Used: 1})
			before.Life, before.Fault = api.LifeFault, api.FaultSyscall
			wantState(t, x, before)
			wantResult(t, x, 9, given, api.Result{End: api.EndFault, At: 4, Fault: api.FaultSyscall})
		}
	}
}

// P24.3: the grants of each number that there may be, with each number of words.
func TestEveryGrant(t *testing.T) {
	for _, number := range list(0, 1, 63, 1<<31-2, 1<<31-1) {
		m := mustTake(t, api.Image{Code: []api.Instr{in(api.OpEnter, 4), in(api.OpConst, ^number), in(api.OpCall, 0), in(api.OpLeave, 4)}, Stack: 256})
		for args := range 16 {
			x := crewOf(t, m, grant(number^1, 3), grant(number, args))
			s := stands(m, 2, 192, ^number)
			wantOK(t, x.Put(s))
			ask := api.Event{At: 2, Number: number}
			for i := range uint32(args) {
				ask.Args = append(ask.Args, word(s.Data, 196+4*i))
			}
			wantResult(t, x, 1, nil, api.Result{End: api.EndReply, At: 2, Ask: ask})
			ask.Value = 5
			wantResult(t, x, 1, replies(5), api.Result{End: api.EndFuel, At: 3, Used: 1, Replies: 1, Events: []api.Event{ask}})
		}
	}
}

// P24.3: a reply that does not fit is refused, used or not, at every Life, wherever it stands; and nothing has changed by it.
func TestRepliesThatDoNotFit(t *testing.T) {
	m := asker(t)
	most := reply(1)
	for range 16 {
		most.Writes = append(most.Writes, write(3, filled(256)...))
	}
	start := crewOf(t, m, grant(1, 1))
	wantOK(t, start.Start(0, nil))
	waits := crewOf(t, m, grant(1, 1))
	wantOK(t, waits.Start(0, nil))
	waits.Go(100, nil)
	done := crewOf(t, m, grant(1, 1), grant(2, 1))
	wantOK(t, done.Start(0, nil))
	done.Go(100, replies(1, 2, 3))
	fault := crewOf(t, m)
	wantOK(t, fault.Start(0, nil))
	fault.Go(100, nil)
	for what, x := range map[string]*crew{"idle": crewOf(t, m), "at its start": start, "waits": waits, "done": done, "fault": fault} {
		before := x.State()
		for _, given := range [][]api.Reply{{tooMany()}, {tooLong()}, {most, tooLong()}, {reply(1), most, most, reply(2), tooMany()}, {tooMany(), tooLong()}} {
			for _, fuel := range []int{0, 1, 100} {
				if r, err := x.Go(fuel, given); err != api.ErrReply || !sameResult(r, api.Result{}) {
					t.Errorf("%s: %+v, %d", what, r, err)
				}
			}
			for _, fuel := range []int{-1, api.MaxFuel + 1} {
				if r, err := x.Go(fuel, given); err != api.ErrFuel || !sameResult(r, api.Result{}) {
					t.Errorf("%s: %+v, %d", what, r, err)
				}
			}
		}
		wantState(t, x, before)
	}
	wantResult(t, waits, 1, []api.Reply{most}, api.Result{End: api.EndFuel, At: 5, Used: 1, Replies: 1, Events: []api.Event{{At: 4, Number: 1, Args: list(65), Value: 1}}})
}

// P24.3: a reply's writes are stored in their order, over the call's own words too, which are read ahead of them; and what a run then loads is what was written.
func TestWrites(t *testing.T) {
	m := module(t, 256, "0 enter 8, 1 const 65, 2 arg 0, 3 const -1, 4 call, 5 pop, 6 const 254, 7 load4, 8 leave 8")
	x := crewOf(t, m, grant(0, 1))
	wantOK(t, x.Start(0, nil))
	given := []api.Reply{reply(9, write(254, 1, 2, 3, 4), write(0xFFFFFFFF, 9), write(188, 0xEE, 0xEF), write(189, 0xDD), write(7))}
	wantResult(t, x, 100, given, api.Result{End: api.EndDone, At: 8, Value: 0x04030901, Used: 9, Replies: 1, Events: []api.Event{{At: 4, Number: 0, Args: list(65), Value: 9}}})
	data := x.State().Data
	if data[188] != 0xEE || data[189] != 0xDD || data[190] != 0 || data[254] != 1 || data[255] != 9 || data[0] != 3 || data[1] != 4 || data[7] != 0 {
		t.Errorf("%v", data)
	}
}

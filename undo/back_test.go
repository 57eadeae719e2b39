package undo_test

import (
	"slices"
	"testing"

	"playpen/api"
	"playpen/isa"
	"playpen/undo"
)

// lastOf starts a run, goes so many instructions, of which the last one is asked about, and gives the states ahead of it and behind it. Whatever it was, it can be gone back and done again, again and again.
func lastOf(t *testing.T, m made, args []uint32, taken int, given []api.Reply, grants ...api.Grant) (ahead, behind api.State) {
	t.Helper()
	x := runOf(t, m, 1, grants...)
	wantOK(t, x.Start(0, args))
	r, err := x.Go(taken-1, given)
	if err != api.OK || r.Used != taken-1 {
		t.Fatalf("%+v, %d", r, err)
	}
	first := heldBy(x)
	if r, err := x.Go(1, given[r.Replies:]); err != api.OK || r.Used != 1 {
		t.Fatalf("%+v, %d", r, err)
	}
	second := heldBy(x)
	for range 3 {
		wantPast(t, x, 1, 0)
		wantOK(t, x.Back(1))
		wantHeld(t, x, held{state: first.state, events: first.events, past: api.Past{Again: 1}})
		wantErr(t, "Back", x.Back(1), api.ErrBack)
		wantOK(t, x.Again(1))
		wantHeld(t, x, second)
		wantErr(t, "Again", x.Again(1), api.ErrAgain)
	}
	return first.state, second.state
}

// wantBytes wants data to have these bytes from a place on, round the end.
func wantBytes(t *testing.T, data []byte, at int, want ...byte) {
	t.Helper()
	for i, one := range want {
		if got := data[(at+i)%len(data)]; got != one {
			t.Errorf("the byte %d is %d, want %d", (at+i)%len(data), got, one)
		}
	}
}

// P25.4, P25.5: stores of 1, 2 and 4 bytes, over the segment's end too.
func TestStores(t *testing.T) {
	for _, word := range []string{"store1", "store2", "store4"} {
		for _, at := range []int{0, 1, 40, 252, 253, 254, 255} {
			m := module(t, 128, "0 enter 4, 1 local 8, 2 load4, 3 local 12, 4 load4, 5 "+word+", 6 goto 6")
			count := map[string]int{"store1": 1, "store2": 2, "store4": 4}[word]
			ahead, behind := lastOf(t, m, list(uint32(at), 0x44332211), 6, nil)
			wantBytes(t, behind.Data, at, []byte{0x11, 0x22, 0x33, 0x44}[:count]...)
			if len(ahead.Ops) != 2 || len(behind.Ops) != 0 {
				t.Errorf("%s: %x, %x", word, ahead.Ops, behind.Ops)
			}
		}
	}
}

// P25.4, P25.5: a copy: what it has written over, also where it lies over what it reads, and round the segment's end.
func TestCopies(t *testing.T) {
	for _, n := range list(0, 1, 7, 8, 60, 100, 255, 256) {
		for _, to := range list(0, 100, 186, 190, 200, 250, 255) {
			for _, from := range list(0, 192, 196, 255) {
				code := append(lines(t, "enter 4, const 0, const 0"), in(api.OpCopy, n), in(api.OpGoto, 4))
				code[1].Arg, code[2].Arg = to, from
				ahead, behind := lastOf(t, mustTake(t, api.Image{Code: code, Stack: 128}), many(15), 4, nil)
				want := slices.Clone(ahead.Data)
				for i := range int(n) {
					want[(int(to)+i)%256] = ahead.Data[(int(from)+i)%256]
				}
				if !slices.Equal(behind.Data, want) {
					t.Errorf("copy %d from %d to %d", n, from, to)
				}
			}
		}
	}
}

// P25.4, P25.5: arg, a call and a leave: the frame's words, SP and PC.
func TestFrames(t *testing.T) {
	m := module(t, 128, "0 enter 8, 1 const 9, 2 arg 0, 3 const 6, 4 call, 5 leave 8, 6 enter 16, 7 const 77, 8 leave 16")
	for i, want := range []struct {
		pc, sp uint32
		ops    []uint32
		at     uint32
		word   uint32
	}{
		{1, 184, nil, 188, 0}, {2, 184, list(9), 188, 0}, {3, 184, nil, 188, 9}, {4, 184, list(6), 184, 0}, {6, 184, nil, 184, 5},
		{7, 168, nil, 184, 5}, {8, 168, list(77), 184, 5}, {5, 184, list(77), 184, 5}, {5, 192, nil, 192, 0xFFFFFFFF},
	} {
		ahead, behind := lastOf(t, m, nil, i+1, nil)
		if behind.PC != want.pc || behind.SP != want.sp || !slices.Equal(behind.Ops, want.ops) || word(behind.Data, want.at) != want.word {
			t.Errorf("%d: %s", i, shown(behind))
		}
		if ahead.Life != api.LifeRuns || ahead.Value != 0 {
			t.Errorf("%d: %s", i, shown(ahead))
		}
	}
}

// P25.4: a run that was at its end runs again: Life, Value, SP and the operand stack are what they were.
func TestTheEndIsGoneBack(t *testing.T) {
	m := module(t, 128, "0 enter 4, 1 const 77, 2 leave 4")
	ahead, behind := lastOf(t, m, nil, 3, nil)
	wantAhead := api.State{Life: api.LifeRuns, PC: 2, SP: 188, Ops: list(77), Data: ahead.Data}
	wantBehind := api.State{Life: api.LifeDone, PC: 2, SP: 192, Data: ahead.Data, Value: 77}
	if !sameState(ahead, wantAhead) || !sameState(behind, wantBehind) {
		t.Errorf("%s\n%s", shown(ahead), shown(behind))
	}
}

// faulty gives for each kind of fault a module that meets it, and how many instructions that takes.
func faulty(t *testing.T) map[api.Fault]made {
	t.Helper()
	return map[api.Fault]made{
		api.FaultBreak:   module(t, 128, "0 enter 4, 1 break"),
		api.FaultDivide:  module(t, 128, "0 enter 4, 1 const 7, 2 const 0, 3 divi, 4 leave 4"),
		api.FaultJump:    module(t, 128, "0 enter 4, 1 const 1, 2 jump, 3 const 1, 4 leave 4", 3),
		api.FaultCall:    module(t, 128, "0 enter 4, 1 const 1, 2 call, 3 leave 4"),
		api.FaultDeep:    module(t, 4096, "0 enter 4, 1 const 1, 2 const 0, 3 call, 4 add, 5 leave 4"),
		api.FaultStack:   module(t, 64, "0 enter 4, 1 const 1, 2 leave 4"),
		api.FaultReturn:  module(t, 128, "0 enter 4, 1 local 4, 2 const 7, 3 store4, 4 const 1, 5 leave 4"),
		api.FaultSyscall: module(t, 128, "0 enter 4, 1 const -1, 2 call, 3 leave 4"),
	}
}

// P25.3, P25.4, P25.5: an instruction that meets a fault is kept too, of each kind: gone back the run runs again, done again it has met it again.
func TestFaultsAreGoneBack(t *testing.T) {
	for kind, m := range faulty(t) {
		p := newPair(t, m, 1000)
		wantOK(t, p.Start(0, nil))
		r, _ := p.Go(1000, replies(1))
		if r.End != api.EndFault || r.Fault != kind {
			t.Fatalf("fault %d: %+v", kind, r)
		}
		ahead, behind := lastOf(t, m, nil, r.Used, nil)
		if behind.Life != api.LifeFault || behind.Fault != kind || ahead.Life != api.LifeRuns || ahead.Fault != 0 || ahead.PC != behind.PC || !slices.Equal(ahead.Ops, behind.Ops) {
			t.Errorf("fault %d: %s\n%s", kind, shown(ahead), shown(behind))
		}
		wantOK(t, p.Back(1))
		wantResult(t, p, 9, nil, api.Result{End: api.EndFault, At: r.At, Fault: kind, Used: 1})
		p.scan()
	}
}

// P25.4, P25.5: a system call: its event, its value, what the reply's writes have written over, some of them over others, some round the end; no reply is handed in again.
func TestCallsOfTheHost(t *testing.T) {
	m := module(t, 128, "0 enter 8, 1 const -6, 2 call, 3 leave 8")
	given := []api.Reply{reply(99, write(10, 1, 2, 3, 4), write(12, 5, 6, 7), write(10, 8), write(254, 9, 10, 11), write(0xFFFFFFFF, 12, 13), write(100), write(10, make([]byte, 256)...), write(20, 14))}
	ahead, behind := lastOf(t, m, many(15), 3, given, grant(5, 15))
	if !slices.Equal(ahead.Ops, list(0xFFFFFFFA)) || !slices.Equal(behind.Ops, list(99)) {
		t.Errorf("%x, %x", ahead.Ops, behind.Ops)
	}
	want := make([]byte, 256)
	want[20] = 14
	if !slices.Equal(behind.Data, want) || word(ahead.Data, 192) != 0xFFFFFFFF {
		t.Errorf("%s\n%s", shown(ahead), shown(behind))
	}
	full := reply(0xFFFFFFFA)
	for i := range 16 {
		full.Writes = append(full.Writes, write(uint32(i*100), slices.Repeat([]byte{byte(i + 1)}, 256)...))
	}
	_, behind = lastOf(t, m, nil, 3, []api.Reply{full}, grant(5, 0))
	wantBytes(t, behind.Data, 0, slices.Repeat([]byte{16}, 256)...)
}

// P25.4, P25.5: every operation that goes on in its procedure, with several words: behind it stand a nop and a break, to which a comparison goes.
func TestEveryOperation(t *testing.T) {
	words := list(0, 1, 5, 0x80000000, 0xFFFFFFFF, 0x3F800000, 0xC0400000, 0x7FC00000)
	for op := api.OpNop; op <= api.LastOp; op++ {
		row, _ := isa.Info(op)
		if row.Kind != api.KindPlain && row.Kind != api.KindBranch {
			continue
		}
		for _, a := range words {
			for _, b := range words {
				code := append(lines(t, "enter 4"), []api.Instr{in(api.OpConst, a), in(api.OpConst, b)}[:row.Takes]...)
				one := in(op, min(row.Most, 9))
				if row.Kind == api.KindBranch {
					one.Arg = uint32(len(code) + 2)
				}
				code = append(code, one, in(api.OpNop, 0), in(api.OpBreak, 0))
				m := mustTake(t, api.Image{Code: code, Stack: 128})
				p := newPair(t, m, 9)
				wantOK(t, p.Start(0, many(15)))
				p.Go(9, nil)
				p.scan()
				lastOf(t, m, many(15), row.Takes+2, nil)
			}
		}
	}
}

// P25.4, P25.5: a goto, and jumps forth and back.
func TestGotosAndJumps(t *testing.T) {
	m := module(t, 128, "0 enter 4, 1 goto 4, 2 const 6, 3 jump, 4 const 2, 5 jump, 6 goto 6", 2, 6)
	for i, pc := range list(1, 4, 5, 2, 3, 6, 6, 6) {
		ahead, behind := lastOf(t, m, nil, i+1, nil)
		if behind.PC != pc || ahead.PC == pc != (i > 5) {
			t.Errorf("%d: %s\n%s", i, shown(ahead), shown(behind))
		}
	}
}

// P25.4, P25.5, R2: what Back and Again refuse, in their order, at every number of kept and undone instructions; and nothing changes.
func TestBackErrors(t *testing.T) {
	for _, keep := range []int{1, 3, 9} {
		for fuel := range 12 {
			for back := range min(fuel, keep) + 1 {
				x := runOf(t, counter(t), keep)
				wantOK(t, x.Start(0, nil))
				x.Go(fuel, nil)
				wantOK(t, x.Back(back))
				before := heldBy(x)
				for _, n := range []int{-1, -2, -65536, -1 << 63} {
					wantErr(t, "Back", x.Back(n), api.ErrArg)
					wantErr(t, "Again", x.Again(n), api.ErrArg)
				}
				for _, more := range []int{1, 2, 65536} {
					wantErr(t, "Back", x.Back(before.past.Back+more), api.ErrBack)
					wantErr(t, "Again", x.Again(before.past.Again+more), api.ErrAgain)
				}
				wantErr(t, "Back", x.Back(1<<63-1), api.ErrBack)
				wantErr(t, "Again", x.Again(1<<63-1), api.ErrAgain)
				wantOK(t, x.Back(0))
				wantOK(t, x.Again(0))
				wantHeld(t, x, before)
			}
		}
	}
}

// P25.6: the events are those of the instructions up to the one where the run stands, at every place of a run with three calls.
func TestEventsByPlace(t *testing.T) {
	x := runOf(t, asker(t), 20, grant(1, 1), grant(2, 2))
	wantOK(t, x.Start(0, list(3)))
	all := []api.Event{event(4, 1, 10, 7), event(8, 2, 20, 7, 10), event(11, 1, 30, 7)}
	r, _ := x.Go(100, replies(10, 20, 30))
	if r.Used != 13 || !sameEvents(r.Events, all) {
		t.Fatalf("%+v", r)
	}
	place := 13
	to := func(next int) {
		t.Helper()
		err := api.OK
		if next < place {
			err = x.Back(place - next)
		} else {
			err = x.Again(next - place)
		}
		wantOK(t, err)
		place = next
		count := 0
		for _, behind := range []int{5, 9, 12} {
			if place >= behind {
				count++
			}
		}
		wantEvents(t, x, all[:count]...)
		wantPast(t, x, place, 13-place)
	}
	for next := 12; next >= 0; next-- {
		to(next)
	}
	for next := range 14 {
		to(next)
	}
	for a := range 14 {
		for b := range 14 {
			to(a)
			to(b)
		}
	}
}

// P25.3, P25.9: a Go behind a Back may get other replies: its events stand in the place of those that were gone back.
func TestAnotherWay(t *testing.T) {
	x := runOf(t, asker(t), 20, grant(1, 1), grant(2, 2))
	wantOK(t, x.Start(0, nil))
	x.Go(100, replies(10, 20, 30))
	wantOK(t, x.Back(5))
	wantEvents(t, x, event(4, 1, 10, 7))
	wantResult(t, x, 100, []api.Reply{reply(21, write(0, 1)), reply(31)}, api.Result{End: api.EndDone, At: 12, Value: 31, Used: 5, Replies: 2,
		Events: []api.Event{event(8, 2, 21, 7, 10), event(11, 1, 31, 7)}})
	wantEvents(t, x, event(4, 1, 10, 7), event(8, 2, 21, 7, 10), event(11, 1, 31, 7))
	wantPast(t, x, 13, 0)
	wantOK(t, x.Back(13))
	wantEvents(t, x)
	wantBytes(t, x.State().Data, 0, 0)
	wantOK(t, x.Again(13))
	wantBytes(t, x.State().Data, 0, 1)
	wantEvents(t, x, event(4, 1, 10, 7), event(8, 2, 21, 7, 10), event(11, 1, 31, 7))
}

// begun gives two runs that are the same, with kept and undone instructions.
func begun(t *testing.T, d *dice) (m made, x, y *undo.Run) {
	t.Helper()
	m = d.someModule(20)
	grants, keep := d.someGrants(), 1+d.upTo(30)
	x, y = runOf(t, m, keep, grants...), runOf(t, m, keep, grants...)
	at, args, fuel, given := d.someBegin(m), d.someArgs(), d.upTo(40), d.someReplies(6)
	for _, one := range []*undo.Run{x, y} {
		wantOK(t, one.Start(at, args))
		one.Go(fuel, given)
	}
	return m, x, y
}

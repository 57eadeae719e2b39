package thread_test

import (
	"slices"
	"testing"

	"playpen/api"
)

// touchedBy gives what one instruction touches, by a machine that stands ahead of it.
func touchedBy(t testing.TB, m made, s api.State, given []api.Reply, grants ...api.Grant) []api.Touch {
	t.Helper()
	p := crewOf(t, m, grants...)
	wantOK(t, p.Put(s))
	p.Log(true)
	p.Go(1, given)
	return p.Touched()
}

// P24.3: for each kind of instruction the touches in their order, by hand; those over the segment's end too.
func TestTouchesByHand(t *testing.T) {
	round := func(write bool, places ...uint32) []api.Touch {
		var all []api.Touch
		for _, at := range places {
			all = append(all, api.Touch{At: at, Write: write})
		}
		return all
	}
	for _, x := range []struct {
		word string
		arg  uint32
		ops  []uint32
		want []api.Touch
	}{
		{"nop", 0, nil, nil}, {"const", 5, nil, nil}, {"local", 5, nil, nil}, {"pop", 0, list(1), nil}, {"dup", 0, list(1), nil}, {"add", 0, list(1, 2), nil}, {"neg", 0, list(1), nil}, {"eq", 0, list(1, 1), nil}, {"divi", 0, list(1, 0), nil},
		{"load1", 0, list(7), reads(7, 1)}, {"load2", 0, list(7), reads(7, 2)}, {"load4", 0, list(7), reads(7, 4)},
		{"load4", 0, list(0x1FE), round(false, 254, 255, 0, 1)}, {"load2", 0, list(0xFFFFFFFF), round(false, 255, 0)}, {"load1", 0, list(0xFFFFFFFF), reads(255, 1)},
		{"store1", 0, list(9, 7), writes(9, 1)}, {"store2", 0, list(9, 7), writes(9, 2)}, {"store4", 0, list(9, 7), writes(9, 4)},
		{"store4", 0, list(0xFFFFFFFD, 7), round(true, 253, 254, 255, 0)}, {"store2", 0, list(0x8FF, 7), round(true, 255, 0)},
		{"copy", 3, list(10, 20), slices.Concat(reads(20, 3), writes(10, 3))}, {"copy", 0, list(10, 20), nil}, {"copy", 2, list(11, 10), slices.Concat(reads(10, 2), writes(11, 2))},
		{"copy", 3, list(255, 254), slices.Concat(round(false, 254, 255, 0), round(true, 255, 0, 1))},
		{"copy", 256, list(3, 0), slices.Concat(reads(0, 256), writes(3, 253), writes(0, 3))},
		{"arg", 0, list(9), writes(192, 4)}, {"arg", 14, list(9), writes(188+4+56, 4)},
	} {
		m, at := around(t, wordOf(t, x.word), x.arg)
		if got := touchedBy(t, m, stands(m, at, 188, x.ops...), nil); !slices.Equal(got, x.want) {
			t.Errorf("%s %d of %x: %v, want %v", x.word, x.arg, x.ops, got, x.want)
		}
	}
}

// P24.3: enter, goto and jump touch nothing; a call touches where it comes back, a leave its return word, whatever comes of it.
func TestTouchesOfCalls(t *testing.T) {
	m := caller(t)
	wantOf := func(what string, s api.State, want ...[]api.Touch) {
		t.Helper()
		if got := touchedBy(t, m, s, nil); !slices.Equal(got, slices.Concat(want...)) {
			t.Errorf("%s: %v, want %v", what, got, slices.Concat(want...))
		}
	}
	wantOf("enter", stands(m, 0, 100))
	wantOf("enter, FaultStack", stands(m, 0, 4))
	wantOf("goto", stands(m, 13, 100))
	wantOf("call", stands(m, 2, 100, 16), writes(100, 4))
	wantOf("call at the top", stands(m, 2, 192, 4), writes(192, 4))
	wantOf("FaultCall", stands(m, 2, 100, 1))
	wantOf("FaultSyscall", stands(m, 2, 100, 0xFFFFFFFF))
	wantOf("FaultDeep", stands(m, 2, 100, append(many(62), 4)...))
	wantOf("leave, returns", returns(m, 21, 3, 7), reads(104, 4))
	wantOf("leave, done", returns(m, 21, api.DoneMark, 7), reads(104, 4))
	wantOf("leave, FaultReturn", returns(m, 21, 8, 7), reads(104, 4))
	wantOf("leave, FaultStack", stands(m, 21, 192, 7))
	wantOf("leave to the top", stands(m, 21, 188, 7), reads(192, 4))
}

// P24.3: a system call that is made touches its words, then what the reply's writes store, in their order; one that waits touches nothing, nor does one that lacks fuel or its grant.
func TestTouchesOfSystemCalls(t *testing.T) {
	m := module(t, 256, "0 enter 4, 1 const -1, 2 call, 3 leave 4")
	for args := range uint32(16) {
		for _, sp := range list(0, 100, 192) {
			s := stands(m, 2, sp, 5, 0xFFFFFFFF)
			p := crewOf(t, m, grant(0, int(args)))
			p.Log(true)
			wantOK(t, p.Put(s))
			for range 3 {
				p.Go(1, nil)
				p.Go(0, replies(1))
				p.Go(0, nil)
			}
			wantTouched(t, p)
			p.Go(1, []api.Reply{reply(1, write(254, 1, 2, 3), write(7), write(sp+4, 9, 9), write(0x1FF, 8))})
			wantTouched(t, p, reads(sp+4, 4*args), writes(254, 2), writes(0, 1), writes(sp+4, 2), writes(255, 1))
			p.Go(1, nil)
			p.Touched()
		}
	}
	if got := touchedBy(t, m, stands(m, 2, 100, 0xFFFFFFFF), replies(1), grant(1, 3)); len(got) != 0 {
		t.Errorf("FaultSyscall: %v", got)
	}
}

// P24.3: Start, Put, State and what is refused are not noted, and leave the log and what it has as they are, on or off; Touched in between or not.
func TestStartAndPutAreNotNoted(t *testing.T) {
	m := module(t, 128, "0 enter 8, 1 local 12, 2 load4, 3 arg 0, 4 const 0xFFFFFFFE, 5 call, 6 leave 8")
	for _, take := range []bool{false, true} {
		x := crewOf(t, m, grant(1, 1))
		var want []api.Touch
		more := func(now ...[]api.Touch) {
			t.Helper()
			want = append(want, slices.Concat(now...)...)
			if take {
				wantTouched(t, x, want)
				want = nil
			}
		}
		x.Log(true)
		wantOK(t, x.Start(0, list(5, 6)))
		more()
		x.Go(3, nil)
		s := x.State()
		more(reads(196, 4))
		wantOK(t, x.Start(0, list(7)))
		more()
		x.Go(4, nil)
		more(reads(196, 4), writes(188, 4))
		wantOK(t, x.Put(s))
		more()
		x.Go(1, nil)
		more(writes(188, 4))
		x.Put(api.State{})
		x.Start(1, nil)
		x.Start(0, make([]uint32, 16))
		x.Go(-1, nil)
		x.Go(9, []api.Reply{tooLong()})
		more()
		x.Go(100, nil)
		x.Go(100, nil)
		more()
		x.Go(100, replies(9))
		more(reads(188, 4), reads(192, 4))
		x.Go(100, replies(9))
		wantTouched(t, x, want)
		wantTouched(t, x)

		x.Log(false)
		wantOK(t, x.Start(0, nil))
		wantOK(t, x.Put(s))
		x.Go(100, replies(1, 2))
		wantTouched(t, x)
	}
}

// P24.3: the log on, off, on again, and while it has something.
func TestLogOnAndOff(t *testing.T) {
	m := module(t, 128, "0 enter 4, 1 const 5, 2 load2, 3 pop, 4 goto 1")
	x := crewOf(t, m)
	wantOK(t, x.Start(0, nil))
	x.Go(5, nil)
	wantTouched(t, x)
	x.Log(true)
	wantTouched(t, x)
	x.Go(4, nil)
	x.Go(8, nil)
	wantTouched(t, x, reads(5, 2), reads(5, 2), reads(5, 2))
	x.Go(4, nil)
	x.Log(true)
	wantTouched(t, x)
	x.Go(4, nil)
	x.Log(true)
	x.Go(4, nil)
	wantTouched(t, x, reads(5, 2))
	x.Go(4, nil)
	x.Log(false)
	wantTouched(t, x)
	x.Go(4, nil)
	wantTouched(t, x)
	x.Log(false)
	x.Log(true)
	x.Go(4, nil)
	wantOK(t, x.Start(0, nil))
	x.Go(5, nil)
	wantTouched(t, x, reads(5, 2), reads(5, 2))
	x.Go(4, nil)
	wantOK(t, x.Start(0, nil))
	x.Log(true)
	wantTouched(t, x)
	x.Go(5, nil)
	wantOK(t, x.Put(x.State()))
	x.Log(false)
	wantTouched(t, x)
	x.Log(true)
	wantTouched(t, x)
	x.Go(4, nil)
	wantTouched(t, x, reads(5, 2))
}

// aCopy gives what a copy there touches.
func aCopy() []api.Touch {
	return slices.Concat(reads(9, 247), reads(0, 9), writes(3, 253), writes(0, 3))
}

// P24.3: a log that fills within one Go, and one that fills over several, behind Starts and Puts.
func TestFullLogInOneGo(t *testing.T) {
	m := module(t, 128, "0 enter 4, 1 const 3, 2 const 9, 3 copy 256, 4 const 77, 5 load4, 6 pop, 7 goto 1")
	var want []api.Touch
	for range 130 {
		want = append(append(want, aCopy()...), reads(77, 4)...)
	}
	want = want[:65536]
	x := crewOf(t, m)
	x.Log(true)
	wantOK(t, x.Start(0, nil))
	x.Go(1+7*130, nil)
	wantTouched(t, x, want)
	x.Go(3, nil)
	wantTouched(t, x, aCopy())
	for _, parts := range []int{1, 2, 50, 126, 127, 128, 129} {
		x.Log(true)
		wantOK(t, x.Start(0, nil))
		x.Go(1+7*parts, nil)
		wantOK(t, x.Put(x.State()))
		x.Go(7*(130-parts), nil)
		wantOK(t, x.Put(x.State()))
		x.Go(7, nil)
		wantOK(t, x.Start(0, nil))
		x.Go(8, nil)
		wantTouched(t, x, want)
	}
}

// P24.3: what is taken out in the midst of a run, at every instruction, is together what is taken out at its end.
func TestTakenOutInTheMidst(t *testing.T) {
	for round := range uint64(300) {
		d := newDice(30000 + round)
		m := d.someModule(t, 20)
		grants := d.someGrants()
		x, y := crewOf(t, m, grants...), crewOf(t, m, grants...)
		s := d.someState(m)
		for _, one := range []*crew{x, y} {
			one.Log(true)
			wantOK(t, one.Put(s))
		}
		given := d.someReplies(3)
		r, _ := x.Go(30, given)
		var parts []api.Touch
		used := 0
		for range r.Used {
			now, _ := y.Go(1, given[used:])
			used += now.Replies
			parts = append(parts, y.Touched()...)
		}
		wantTouched(t, x, parts)
	}
}

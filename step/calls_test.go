package step_test

import (
	"bytes"
	"slices"
	"testing"

	"playpen/api"
	"playpen/step"
)

// P18.4, P18.10: a call of each index: a procedure is called where one begins, and nowhere else.
func TestCalls(t *testing.T) {
	m := caller(t)
	for _, at := range list(2, 8) {
		for to := range uint32(24) {
			s := filledState(stands(t, m, at, 100, 1, 2, to))
			if !slices.Contains(list(0, 4, 12, 16), to) {
				wantFault(t, m, s, api.FaultCall)
				continue
			}
			want := clonedState(s)
			want.PC, want.Ops = to, list(1, 2)
			put(want.Data, 100, at+1)
			if got := took(t, m, s); !sameState(got, want) {
				t.Errorf("from %d to %d: Life %d, PC %d, SP %d, Ops %x", at, to, got.Life, got.PC, got.SP, got.Ops)
			}
		}
		for _, to := range list(0x10000, 0x10010, 16384, 0x7FFFFFFF) {
			wantFault(t, m, stands(t, m, at, 100, 1, 2, to), api.FaultCall)
		}
	}
}

// P18.4: where a call comes back is laid at SP, at the least and the greatest one.
func TestCallKeepsWhereItComesBack(t *testing.T) {
	m := caller(t)
	for _, sp := range list(0, 4, 188, 192) {
		s := filledState(stands(t, m, 2, sp, 16))
		want := filled(256)
		copy(want[sp:], []byte{3, 0, 0, 0})
		if got := took(t, m, s); !bytes.Equal(got.Data, want) || got.SP != sp || got.PC != 16 {
			t.Errorf("SP %d: %v", sp, got.Data[sp:sp+8])
		}
	}
}

// asking gives a state at a system call, and its module; its words are 0x101, 0x102, .., from SP + 4 on.
func asking(t testing.TB, sp, number uint32) (made, api.State) {
	t.Helper()
	m := module(t, 256, "0 enter 4, 1 const -1, 2 call, 3 leave 4")
	s := filledState(stands(t, m, 2, sp, 5, 6, ^number))
	for i := range uint32(15) {
		put(s.Data, sp+4+4*i, 0x101+i)
	}
	return m, s
}

// wordsFrom gives the first words of such a call.
func wordsFrom(count int) []uint32 {
	var all []uint32
	for i := range uint32(count) {
		all = append(all, 0x101+i)
	}
	return all
}

// P18.4: system calls of 0 to 15 words, without a reply and with one, at the least and the greatest SP, of the least and the greatest number.
func TestSystemCalls(t *testing.T) {
	for args := range 16 {
		for _, sp := range list(0, 100, 188, 192) {
			for _, number := range list(0, 1, 2, 1<<31-2, 1<<31-1) {
				m, s := asking(t, sp, number)
				grants := []api.Grant{grant(number^1, 15-args), grant(number, args)}
				event := api.Event{At: 2, Number: number, Args: wordsFrom(args)}

				got, turn := check(t, m, grants, s, nil)
				if !sameState(got, s) || !sameTurn(turn, api.Turn{Waits: true, Event: event}) {
					t.Errorf("number %d, %d words at %d, without a reply: %+v", number, args, sp, turn)
				}

				want := clonedState(s)
				want.PC, want.Ops = 3, list(5, 6, 0xABCD)
				event.Value = 0xABCD
				got, turn = check(t, m, grants, s, []api.Reply{reply(0xABCD)})
				if !sameState(got, want) || !sameTurn(turn, api.Turn{Took: true, Made: true, Event: event}) {
					t.Errorf("number %d, %d words at %d, with a reply: %+v", number, args, sp, turn)
				}
			}
		}
	}
}

// P18.4, P18.10: a system call of a number that is not granted is a fault, with replies too, and makes no event.
func TestNotGranted(t *testing.T) {
	for _, number := range list(0, 1, 2, 7, 1<<31-2, 1<<31-1) {
		m, s := asking(t, 100, number)
		want := clonedState(s)
		want.Life, want.Fault = api.LifeFault, api.FaultSyscall
		for _, grants := range [][]api.Grant{nil, {}, {grant(number^4, 1)}, {grant(number^1, 0), grant(number^2, 15), grant(number^0x40000000, 3)}} {
			for _, replies := range [][]api.Reply{nil, {}, {reply(9, write(3, 4))}} {
				got, turn := check(t, m, grants, s, replies)
				if !sameState(got, want) || !sameTurn(turn, api.Turn{Took: true}) {
					t.Errorf("number %d, grants %v: Life %d, %+v", number, grants, got.Life, turn)
				}
			}
		}
	}
}

// P18.4, P18.5: of two replies the first one answers, and nothing of the second one is seen.
func TestTwoReplies(t *testing.T) {
	m, s := asking(t, 100, 2)
	grants := []api.Grant{grant(2, 3)}
	one, two := reply(0x11, write(0, 1, 2), write(90, 3)), reply(0x22, write(0, 8, 8, 8), write(91, 9))
	first, turn := check(t, m, grants, s, []api.Reply{one})
	if first.Ops[2] != 0x11 || !bytes.Equal(first.Data[:2], []byte{1, 2}) || first.Data[90] != 3 || turn.Event.Value != 0x11 {
		t.Fatalf("%+v, Ops %x", turn, first.Ops)
	}
	for _, more := range [][]api.Reply{{one, two}, {one, one, two}, {one, {}}} {
		got, again := check(t, m, grants, s, more)
		if !sameState(got, first) || !sameTurn(again, turn) {
			t.Errorf("%d replies: %+v, Ops %x", len(more), again, got.Ops)
		}
	}
	got, again := check(t, m, grants, s, []api.Reply{two, one})
	if got.Ops[2] != 0x22 || !bytes.Equal(got.Data[:3], []byte{8, 8, 8}) || got.Data[91] != 9 || again.Event.Value != 0x22 {
		t.Errorf("the other way round: %+v, Ops %x", again, got.Ops)
	}
}

// P18.4: writes that lie over one another: the later one stays; and over the segment's end: they go on at its beginning.
func TestWrites(t *testing.T) {
	long := filled(256)
	for what, x := range map[string]struct {
		writes []api.Write
		want   map[int]byte
	}{
		"none":                        {nil, nil},
		"of no bytes":                 {[]api.Write{write(7), write(0xFFFFFFFF)}, nil},
		"one byte":                    {[]api.Write{write(200, 5)}, map[int]byte{200: 5}},
		"over one another":            {[]api.Write{write(10, 1, 2, 3, 4), write(11, 9, 8)}, map[int]byte{10: 1, 11: 9, 12: 8, 13: 4}},
		"over one another, reversed":  {[]api.Write{write(11, 9, 8), write(10, 1, 2, 3, 4)}, map[int]byte{10: 1, 11: 2, 12: 3, 13: 4}},
		"the same, masked":            {[]api.Write{write(10, 1), write(10+256, 2), write(10+0x80000000, 3)}, map[int]byte{10: 3}},
		"round the end":               {[]api.Write{write(254, 1, 2, 3, 4)}, map[int]byte{254: 1, 255: 2, 0: 3, 1: 4}},
		"round the end of the words'": {[]api.Write{write(0xFFFFFFFF, 1, 2)}, map[int]byte{255: 1, 0: 2}},
		"round the end, and over":     {[]api.Write{write(254, 1, 2, 3, 4), write(255, 9), write(1, 7)}, map[int]byte{254: 1, 255: 9, 0: 3, 1: 7}},
		"all bytes, and some over":    {[]api.Write{write(3, long...), write(0, 0xEE)}, nil},
	} {
		m, s := asking(t, 100, 2)
		want := clonedState(s)
		want.PC, want.Ops = 3, list(5, 6, 9)
		for at, b := range x.want {
			want.Data[at] = b
		}
		if what == "all bytes, and some over" {
			want.Data = slices.Concat(long[253:], long[:253])
			want.Data[0] = 0xEE
		}
		got, turn := check(t, m, []api.Grant{grant(2, 1)}, s, []api.Reply{reply(9, x.writes...)})
		// The words are those ahead of the writes, which may lie over them.
		if !sameState(got, want) || !sameTurn(turn, api.Turn{Took: true, Made: true, Event: api.Event{At: 2, Number: 2, Args: list(0x101), Value: 9}}) {
			t.Errorf("%s: %+v, %v", what, turn, got.Data)
		}
	}
}

// P18.4: sixteen writes, the most that there may be, in their order; a write over the call's own words is not seen in its event.
func TestMostWrites(t *testing.T) {
	m, s := asking(t, 100, 2)
	r := reply(9)
	for i := range byte(16) {
		r.Writes = append(r.Writes, write(104+uint32(i), i, i, i))
	}
	got, turn := check(t, m, []api.Grant{grant(2, 4)}, s, []api.Reply{r})
	want := slices.Clone(s.Data)
	for i := range byte(16) {
		want[104+int(i)] = i
	}
	want[120], want[121] = 15, 15
	if !bytes.Equal(got.Data, want) || !slices.Equal(turn.Event.Args, wordsFrom(4)) {
		t.Errorf("%v, %+v", got.Data[100:124], turn)
	}
}

// P18.4: a call that waited is looked at anew: that it waited has changed nothing.
func TestWaitsAgain(t *testing.T) {
	m, s := asking(t, 100, 2)
	grants := []api.Grant{grant(2, 2)}
	first, turn := check(t, m, grants, s, nil)
	second, again := check(t, m, grants, first, []api.Reply{})
	if !sameState(first, s) || !sameState(second, s) || !sameTurn(turn, again) || !turn.Waits {
		t.Errorf("%+v, %+v", turn, again)
	}
	got, made := check(t, m, grants, second, []api.Reply{reply(1)})
	if !made.Made || got.PC != 3 {
		t.Errorf("%+v, PC %d", made, got.PC)
	}
	if got, turn := check(t, m, nil, second, nil); got.Fault != api.FaultSyscall || !turn.Took {
		t.Errorf("%+v, fault %d", turn, got.Fault)
	}
}

// P18.5: the grants in every order.
func TestOrderOfGrants(t *testing.T) {
	m, s := asking(t, 100, 2)
	grants := []api.Grant{grant(0, 1), grant(2, 4), grant(3, 2), grant(1<<31-1, 0)}
	replies := []api.Reply{reply(9, write(4, 5))}
	want, wantTurn := check(t, m, grants, s, replies)
	var permute func(k int)
	permute = func(k int) {
		if k == len(grants) {
			got, turn, err := step.Step(m.Module, grants, s, replies)
			if err != api.OK || !sameState(got, want) || !sameTurn(turn, wantTurn) {
				t.Fatalf("%v: %+v, %d", grants, turn, err)
			}
			return
		}
		for i := k; i < len(grants); i++ {
			grants[k], grants[i] = grants[i], grants[k]
			permute(k + 1)
			grants[k], grants[i] = grants[i], grants[k]
		}
	}
	permute(0)
}

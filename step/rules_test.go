package step_test

import (
	"bytes"
	"slices"
	"sync"
	"testing"

	"playpen/api"
	"playpen/step"
	"playpen/verify"
)

// P18.4: of several errors the first of ErrNil, ErrGrant, ErrState, ErrReply is told, and nothing beside it, whatever the Life is.
func TestErrorsInOrder(t *testing.T) {
	m, states := lived(t)
	modules := []*verify.Module{m.Module}
	for _, none := range unmade(t) {
		modules = append(modules, none)
	}
	crowd := make([]api.Grant, 65)
	for i := range crowd {
		crowd[i] = grant(uint32(i), 0)
	}
	grants := [][]api.Grant{nil, {grant(1<<31-1, 15), grant(0, 0)}, crowd[:64], crowd, {grant(1<<31, 0)}, {grant(1, 16)}, {grant(1, -1)}, {grant(7, 2), grant(3, 1), grant(7, 2)}, {grant(0xFFFFFFFF, 1)}}
	most := reply(1)
	for range 16 {
		most.Writes = append(most.Writes, write(3, make([]byte, 256)...))
	}
	replies := [][]api.Reply{nil, {most}, {reply(0), most, most}, {tooMany()}, {tooLong()}, {reply(0), tooMany()}, {most, most, reply(0), tooLong()}}
	for what, s := range states {
		unfit := clonedState(s)
		unfit.Ops = many(65)
		for i, module := range modules {
			for j, list := range grants {
				for k, answers := range replies {
					for _, state := range []api.State{s, unfit, {}} {
						want := api.OK
						switch {
						case i > 0:
							want = api.ErrNil
						case j >= 3:
							want = api.ErrGrant
						case !m.fits(state):
							want = api.ErrState
						case k >= 3:
							want = api.ErrReply
						}
						got, turn, err := step.Step(module, list, state, answers)
						if err != want || err != api.OK && (!isZero(got) || !sameTurn(turn, api.Turn{})) {
							t.Fatalf("%s: module %d, grants %d, replies %d: %+v, %+v, %d, want %d", what, i, j, k, got, turn, err, want)
						}
						if err == api.OK {
							check(t, m, list, state, answers)
						}
					}
				}
			}
		}
	}
}

// P18.4: a state that does not run stays as it is, whatever is granted and replied.
func TestOtherLives(t *testing.T) {
	m, states := lived(t)
	for what, s := range states {
		if s.Life == api.LifeRuns {
			continue
		}
		for _, replies := range [][]api.Reply{nil, {reply(9, write(1, 2))}} {
			got, turn := check(t, m, []api.Grant{grant(0, 0)}, s, replies)
			if !sameState(got, s) || !sameTurn(turn, api.Turn{}) {
				t.Errorf("%s: %+v, %+v", what, got, turn)
			}
		}
	}
}

// P18.2, R1: of a module that is none nothing fits.
func TestNoneFits(t *testing.T) {
	m, states := lived(t)
	for what, none := range unmade(t) {
		for life, s := range states {
			if step.Fits(none, s) || !step.Fits(m.Module, s) {
				t.Errorf("%s: %s fits", what, life)
			}
		}
		if step.Fits(none, api.State{}) || step.Fits(none, fresh(t, sample(t))) {
			t.Errorf("%s: a state fits", what)
		}
	}
}

// roomyState gives the same state with something in the spare room of its lists.
func roomyState(s api.State) api.State {
	s.Ops = append(slices.Clone(s.Ops), 77, 78)[:len(s.Ops)]
	s.Data = append(slices.Clone(s.Data), 77, 78)[:len(s.Data)]
	return s
}

// roomyReplies gives the same replies likewise.
func roomyReplies(all []api.Reply) []api.Reply {
	all = clonedReplies(all)
	for i := range all {
		writes := append(all[i].Writes, write(77, 77))[:len(all[i].Writes)]
		for j, w := range writes {
			writes[j].Bytes = append(slices.Clone(w.Bytes), 77, 78)[:len(w.Bytes)]
		}
		all[i].Writes = writes
	}
	return append(all, reply(77))[:len(all)]
}

// whole gives a copy of a list with so much of its spare room.
func whole[E any](list []E, spare int) []E { return slices.Clone(list[:len(list)+spare]) }

// R3: arguments stay as they are, the spare room of their lists too, whatever the calls answer.
func TestArgumentsStay(t *testing.T) {
	for round := range uint64(400) {
		d := newDice(80000 + round)
		m := d.someModule(t, 20)
		for range 10 {
			s := roomyState(d.someState(m))
			grants := append(d.someGrants(), grant(77, 7))
			grants = grants[:len(grants)-1]
			replies := roomyReplies(d.someReplies())
			args := append(make([]uint32, d.upTo(16)), 77)
			args = args[:len(args)-1]
			keptS := api.State{Life: s.Life, PC: s.PC, SP: s.SP, Ops: whole(s.Ops, 2), Data: whole(s.Data, 2), Value: s.Value, Fault: s.Fault}
			keptGrants, keptArgs, keptReplies := whole(grants, 1), whole(args, 1), clonedReplies(replies)
			step.Fits(m.Module, s)
			step.Start(m.Module, s, uint32(d.upTo(1)), args)
			step.Step(m.Module, grants, s, replies)
			step.Step(m.Module, grants, s, append(replies[:len(replies):len(replies)], tooMany()))
			now := s
			now.Ops, now.Data = whole(s.Ops, 2), whole(s.Data, 2)
			if !sameState(now, keptS) || !slices.Equal(whole(grants, 1), keptGrants) || !slices.Equal(whole(args, 1), keptArgs) || !sameReplies(replies, keptReplies) {
				t.Fatalf("PC %d: an argument changed", s.PC)
			}
			for _, r := range replies {
				for _, w := range r.Writes {
					if !bytes.Equal(w.Bytes[len(w.Bytes):len(w.Bytes)+2], []byte{77, 78}) {
						t.Fatal("a write's spare room changed")
					}
				}
				if w := r.Writes[len(r.Writes) : len(r.Writes)+1][0]; w.At != 77 {
					t.Fatal("a reply's spare room changed")
				}
			}
		}
	}
}

// R3: what was handed in may be written over: nothing of it is seen in what was answered. And what is answered is new memory at each call: no argument and no other answer has a part in it.
func TestAnswersAreTheirOwn(t *testing.T) {
	for round := range uint64(400) {
		d := newDice(90000 + round)
		m := d.someModule(t, 20)
		for range 10 {
			start := d.someState(m)
			grants, replies := d.someGrants(), d.someReplies()
			wantState, wantTurn, _ := m.step(grants, start, replies)

			s, list, answers := roomyState(start), slices.Clone(grants), roomyReplies(replies)
			first, turn, _ := step.Step(m.Module, list, s, answers)
			second, again, _ := step.Step(m.Module, list, s, answers)
			spoilState(s)
			spoil(list, grant(77, 7))
			for _, r := range answers {
				for _, w := range r.Writes {
					spoil(w.Bytes, 0x77)
				}
				spoil(r.Writes, write(77))
			}
			spoil(answers, reply(77))
			if !sameState(first, wantState) || !sameTurn(turn, wantTurn) {
				t.Fatalf("PC %d: an argument has a part in what was answered", start.PC)
			}
			spoilState(first)
			if !sameTurn(turn, wantTurn) {
				t.Fatalf("PC %d: the state has a part in the event", start.PC)
			}
			spoil(turn.Event.Args, 0x77777777)
			if !sameState(second, wantState) || !sameTurn(again, wantTurn) {
				t.Fatalf("PC %d: two answers have a part in one another", start.PC)
			}
		}
	}
}

// R3: the lists of one state have no part in one another, and of Start and Fresh there is new memory at each call too.
func TestListsAreApart(t *testing.T) {
	m, states := lived(t)
	for what, s := range states {
		args := append(make([]uint32, 0, 20), 5, 6)
		given := roomyState(s)
		first, _ := step.Start(m.Module, given, 0, args)
		second, _ := step.Start(m.Module, given, 0, args)
		want, _ := m.start(s, 0, list(5, 6))
		spoilState(given)
		spoil(args, 77)
		if !sameState(first, want) {
			t.Errorf("%s: an argument has a part in what was answered", what)
		}
		spoilState(first)
		if !sameState(second, want) {
			t.Errorf("%s: two answers have a part in one another", what)
		}
		got, _, _ := step.Step(m.Module, nil, s, nil)
		data := slices.Clone(got.Data)
		spoil(got.Ops, 0x77777777)
		if !bytes.Equal(got.Data, data) {
			t.Errorf("%s: two lists of an answer have a part in one another", what)
		}
	}
	one, other := fresh(t, m), fresh(t, m)
	spoilState(one)
	if !sameState(other, m.fresh()) || !sameState(fresh(t, m), m.fresh()) {
		t.Error("two fresh states have a part in one another")
	}
}

// R4: a module may be asked by several at a time, and states handed to several.
func TestSideBySide(t *testing.T) {
	d := newDice(11)
	m := d.someModule(t, 24)
	var shared []api.State
	for range 50 {
		shared = append(shared, d.someState(m))
	}
	replies := []api.Reply{reply(5, write(250, 1, 2, 3, 4, 5, 6, 7, 8))}
	grants := []api.Grant{grant(0, 1), grant(1, 15), grant(2, 0)}
	var all sync.WaitGroup
	for range 8 {
		all.Go(func() {
			for _, s := range shared {
				want, wantTurn, wantErr := m.step(grants, s, replies)
				got, turn, err := step.Step(m.Module, grants, s, replies)
				if err != wantErr || !sameState(got, want) || !sameTurn(turn, wantTurn) {
					t.Errorf("PC %d: %+v, %d", s.PC, turn, err)
				}
				begun, err := step.Start(m.Module, s, 0, nil)
				if want, wantErr := m.start(s, 0, nil); err != wantErr || !sameState(begun, want) {
					t.Errorf("Start: %d", err)
				}
			}
		})
	}
	all.Wait()
}

// R1: no call panics, at whatever it is given, and each does what its promise says.
func FuzzEveryCall(f *testing.F) {
	f.Add(uint64(1), byte(1), uint32(1), uint32(188), byte(0), uint32(256), uint32(0), byte(0), uint32(0), 1, byte(1), uint32(3), []byte{1, 2})
	f.Add(uint64(7), byte(0), uint32(0), uint32(192), byte(0), uint32(512), uint32(0), byte(0), uint32(5), 16, byte(0), uint32(0xFFFFFFFF), []byte{})
	f.Add(uint64(9), byte(3), uint32(2), uint32(100), byte(3), uint32(256), uint32(1), byte(8), uint32(1<<31), -1, byte(17), uint32(255), make([]byte, 257))
	f.Add(uint64(30), byte(2), uint32(4), uint32(0xFFFFFFFC), byte(66), uint32(0), uint32(7), byte(9), uint32(1<<31-1), 15, byte(2), uint32(254), make([]byte, 256))
	f.Fuzz(func(t *testing.T, seed uint64, life byte, pc, sp uint32, count byte, size, value uint32, kind byte, number uint32, args int, writes byte, at uint32, b []byte) {
		d := newDice(seed)
		m := d.someModule(t, 24)
		r := reply(value)
		for i := range uint32(writes) {
			r.Writes = append(r.Writes, write(at+3*i, b...))
		}
		grants := append([]api.Grant{grant(number, args)}, d.someGrants()...)
		any := api.State{Life: api.Life(life), PC: pc, SP: sp, Ops: many(int(count)), Data: make([]byte, size%(1<<17)), Value: value, Fault: api.Fault(kind)}
		near := d.someState(m)
		turned := clonedState(near)
		turnPart(d, m, &turned)
		for _, s := range []api.State{any, near, turned, fresh(t, m)} {
			if got := step.Fits(m.Module, s); got != m.fits(s) {
				t.Fatalf("Fits: %t", got)
			}
			checkStart(t, m, s, pc, b2w(b))
			checkStart(t, m, s, 0, b2w(b[:min(len(b), 15)]))
			check(t, m, grants, s, []api.Reply{r})
			check(t, m, grants[1:], s, []api.Reply{r})
			check(t, m, grants[1:], s, d.someReplies())
			check(t, m, nil, s, nil)
		}
	})
}

// b2w gives a word for each byte.
func b2w(b []byte) []uint32 {
	words := make([]uint32, len(b))
	for i, x := range b {
		words[i] = uint32(x) * 0x01020304
	}
	return words
}

package undo_test

import (
	"bytes"
	"slices"
	"sync"
	"testing"

	"playpen/api"
	"playpen/undo"
)

// P25.7, R1, R2: a Run that is nil or that New did not make: ErrNil ahead of all other errors, and nothing beside it; the others tell nothing.
func TestNoRun(t *testing.T) {
	for what, none := range noRuns(t) {
		for range 2 {
			for _, at := range list(0, 1, 0xFFFFFFFF) {
				for _, count := range []int{0, 15, 16} {
					wantErr(t, what, none.Start(at, make([]uint32, count)), api.ErrNil)
				}
			}
			for _, fuel := range []int{-1, 0, 1, api.MaxFuel, api.MaxFuel + 1} {
				for _, given := range [][]api.Reply{nil, replies(1), {tooMany()}, {tooLong()}} {
					if r, err := none.Go(fuel, given); err != api.ErrNil || !sameResult(r, api.Result{}) {
						t.Errorf("%s: Go(%d): %+v, %d", what, fuel, r, err)
					}
				}
			}
			for _, n := range []int{-1, 0, 1, 2, 65537} {
				wantErr(t, what, none.Back(n), api.ErrNil)
				wantErr(t, what, none.Again(n), api.ErrNil)
			}
			if got := heldBy(none); !sameHeld(got, held{}) {
				t.Errorf("%s: %+v", what, got)
			}
		}
	}
}

// P25.7: nothing that is asked of a copy by hand is seen in the run that it was copied from.
func TestCopyByHand(t *testing.T) {
	x := runOf(t, asker(t), 20, grant(1, 1), grant(2, 2))
	wantOK(t, x.Start(0, nil))
	x.Go(9, replies(1, 2))
	wantOK(t, x.Back(2))
	before := heldBy(x)
	byHand := *x
	byHand.Start(0, nil)
	byHand.Go(100, replies(1, 2, 3))
	byHand.Back(1)
	byHand.Again(1)
	wantHeld(t, x, before)
	wantOK(t, x.Again(2))
	wantOK(t, x.Back(9))
}

// Nothing in a list: nil and a list without elements are one thing.
func TestNothing(t *testing.T) {
	m := asker(t)
	x, err := undo.New(m.Module, nil, 9)
	wantOK(t, err)
	y, err := undo.New(m.Module, []api.Grant{}, 9)
	wantOK(t, err)
	wantOK(t, x.Start(0, nil))
	wantOK(t, y.Start(0, []uint32{}))
	r, _ := x.Go(9, nil)
	wantResult(t, y, 9, []api.Reply{}, r)
	wantHeld(t, y, heldBy(x))
}

// roomyReplies gives the same replies with something in the spare room of their lists.
func roomyReplies(all []api.Reply) []api.Reply {
	all = clonedReplies(all)
	for i := range all {
		writes := append(all[i].Writes, write(77, 77))[:len(all[i].Writes)]
		for j, w := range writes {
			writes[j].Bytes = append(slices.Clone(w.Bytes), 77, 78)[:len(w.Bytes)]
		}
		all[i].Writes = writes
	}
	return append(all, reply(77))[:len(all)]
}

// whole gives a copy of a list with so much of its spare room.
func whole[E any](all []E, spare int) []E { return slices.Clone(all[:len(all)+spare]) }

// wantRoom wants the spare room of roomy replies to be as it was.
func wantRoom(t *testing.T, all []api.Reply) {
	t.Helper()
	for _, r := range all {
		for _, w := range r.Writes {
			if !bytes.Equal(w.Bytes[len(w.Bytes):len(w.Bytes)+2], []byte{77, 78}) {
				t.Fatal("a write's spare room changed")
			}
		}
		if w := r.Writes[len(r.Writes) : len(r.Writes)+1][0]; w.At != 77 {
			t.Fatal("a reply's spare room changed")
		}
	}
	if all[len(all) : len(all)+1][0].Value != 77 {
		t.Fatal("the replies' spare room changed")
	}
}

// R3: arguments stay as they are, the spare room of their lists too.
func TestArgumentsStay(t *testing.T) {
	for round := range uint64(200) {
		d := newDice(100000 + round)
		m := d.someModule(20)
		grants := append(d.someGrants(), grant(77, 7))
		grants = grants[:len(grants)-1]
		keptGrants := whole(grants, 1)
		x := runOf(t, m, 1+d.upTo(20), grants...)
		for range 6 {
			given := roomyReplies(d.someReplies(4))
			args := append(d.someArgs(), 77)
			args = args[:len(args)-1]
			keptArgs, keptReplies := whole(args, 1), clonedReplies(given)
			wantOK(t, x.Start(d.someBegin(m), args))
			x.Go(d.upTo(20), given)
			x.Back(d.upTo(x.Past().Back))
			x.Again(d.upTo(x.Past().Again))
			x.Go(d.upTo(20), given)
			x.Go(d.upTo(20), append(given[:len(given):len(given)], tooMany()))
			if !slices.Equal(whole(args, 1), keptArgs) || !sameReplies(given, keptReplies) || !slices.Equal(whole(grants, 1), keptGrants) {
				t.Fatal("an argument changed")
			}
			wantRoom(t, given)
		}
	}
}

// R3: what was handed in may be written over behind the call: nothing of it is seen in the run, not when it goes back or on again either. And what was answered may be: nothing of it is seen in the run, nor in other answers.
func TestNothingIsShared(t *testing.T) {
	events := 0
	for round := range uint64(300) {
		d := newDice(110000 + round)
		m := d.someModule(20)
		grants, keep := d.someGrants(), 1+d.upTo(40)
		handed := append(slices.Clone(grants), grant(99, 1))
		x, y := runOf(t, m, keep, handed[:len(grants)]...), runOf(t, m, keep, grants...)
		spoil(handed, grant(0, 15))
		for range 4 {
			args, at := d.someArgs(), d.someBegin(m)
			own := append(slices.Clone(args), 5)
			wantOK(t, x.Start(at, own[:len(args)]))
			wantOK(t, y.Start(at, args))
			spoil(own, 0x77777777)
			for range 4 {
				fuel, given := d.upTo(20), d.someReplies(4)
				own := roomyReplies(given)
				got, _ := x.Go(fuel, own)
				spoilReplies(own)
				want, _ := y.Go(fuel, given)
				if !sameResult(got, want) {
					t.Fatalf("%+v, want %+v", got, want)
				}
				events += len(got.Events)
				spoilResult(got)
				for range 3 {
					n := d.upTo(x.Past().Back)
					wantOK(t, x.Back(n))
					wantOK(t, y.Back(n))
					wantHeld(t, x, heldBy(y))
					spoilState(x.State())
					spoilEvents(x.Events())
					n = d.upTo(x.Past().Again)
					wantOK(t, x.Again(n))
					wantOK(t, y.Again(n))
					wantHeld(t, x, heldBy(y))
					spoilState(x.State())
					spoilEvents(x.Events())
				}
			}
			wantHeld(t, x, heldBy(y))
		}
	}
	if events < 100 {
		t.Errorf("%d events", events)
	}
}

// R3: earlier answers stay as they were, whatever the run does later, and have no part in one another.
func TestAnswersStay(t *testing.T) {
	x := runOf(t, asker(t), 20, grant(1, 3), grant(2, 3))
	wantOK(t, x.Start(0, list(1, 2)))
	r, _ := x.Go(100, replies(10, 20))
	if len(r.Events) != 2 || r.End != api.EndReply || len(r.Ask.Args) != 3 {
		t.Fatalf("%+v", r)
	}
	s, events, more := x.State(), x.Events(), x.Events()
	keptR, keptS, keptEvents := clonedResult(r), clonedState(s), clonedEvents(events)
	stay := func(what string) {
		t.Helper()
		if !sameResult(r, keptR) || !sameState(s, keptS) || !sameEvents(events, keptEvents) {
			t.Errorf("%s: an earlier answer became another one", what)
		}
	}
	x.Back(8)
	stay("Back")
	x.Again(5)
	x.Go(100, replies(7, 8, 9))
	stay("Go")
	x.Back(1)
	x.Start(0, many(15))
	x.Go(100, replies(7, 8, 9))
	stay("Start")
	spoilEvents(more)
	stay("other events")
	spoil(events[0].Args, 77)
	if !sameEvent(events[1], keptEvents[1]) || !sameResult(r, keptR) {
		t.Error("the words of an event have a part in those of others")
	}
	spoil(r.Events[0].Args, 77)
	spoil(r.Ask.Args, 77)
	if !sameEvent(r.Events[1], keptR.Events[1]) || !sameEvent(events[1], keptEvents[1]) {
		t.Error("the words of an event have a part in those of others")
	}
	spoil(s.Ops, 77)
	if !bytes.Equal(s.Data, keptS.Data) {
		t.Error("the words of a state have a part in its data")
	}
}

// R3, P25.1: the module is what it was, and runs of one module in turns, with other grants and other lengths, do not see one another.
func TestTwoInTurns(t *testing.T) {
	for round := range uint64(120) {
		d := newDice(120000 + round)
		m := d.someModule(20)
		before, digest := m.Image(), m.Digest()
		all := []*pair{newPair(t, m, 1+d.upTo(20), d.someGrants()...), newPair(t, m, 1+d.upTo(20), d.someGrants()...), newPair(t, m, 3)}
		for range 30 {
			p := all[d.upTo(2)]
			switch d.upTo(5) {
			case 0:
				p.Start(d.someBegin(m), d.someArgs())
			case 1:
				p.Back(d.upTo(5))
			case 2:
				p.Again(d.upTo(5))
			default:
				p.Go(d.upTo(12), d.someReplies(3))
			}
			for _, one := range all {
				one.hold("another's call")
			}
		}
		if !sameImage(m.Image(), before) || m.Digest() != digest {
			t.Fatalf("%v became %v", before, m.Image())
		}
	}
}

// R4: runs of one module may go side by side.
func TestSideBySide(t *testing.T) {
	m := asker(t)
	var all sync.WaitGroup
	for n := range 12 {
		x := runOf(t, m, 13, grant(1, 1), grant(2, 2))
		all.Go(func() {
			for i := range uint32(50) {
				x.Start(0, nil)
				x.Go(100, replies(i, i+1, i+2))
				x.Back(n)
				x.Again(n)
				x.Back(13)
				if r, err := x.Go(100, replies(i, i+1, i+3)); err != api.OK || r.Value != i+3 || r.Used != 13 || len(x.Events()) != 3 {
					t.Errorf("%d: %+v, %d", n, r, err)
				}
			}
		})
	}
	all.Wait()
}

// R1: no call panics, at whatever it is given, one behind the other; and each does what its promise says.
func FuzzEveryCall(f *testing.F) {
	f.Add(uint64(1), byte(4), []byte{0, 0, 4, 20, 5, 4, 2, 1, 3, 1})
	f.Add(uint64(7), byte(1), []byte{0, 1, 4, 3, 4, 255, 2, 0, 3, 9, 4, 7, 2, 2, 0, 4, 3})
	f.Add(uint64(30), byte(0), []byte{0, 1, 5, 200, 2, 12, 6, 9, 4, 1, 7, 1, 8, 0, 3, 0, 5, 7, 16, 8, 250})
	f.Fuzz(func(t *testing.T, seed uint64, keep byte, calls []byte) {
		d := newDice(seed)
		m := d.someModule(24)
		p := newPair(t, m, 1+int(keep), d.someGrants()...)
		for i := 0; i+1 < len(calls) && i < 80; i += 2 {
			arg := calls[i+1]
			switch calls[i] % 9 {
			case 0:
				p.Start(d.someBegin(m), make([]uint32, arg%18))
			case 1:
				p.Start(uint32(arg), d.someArgs())
			case 2:
				p.Back(int(int8(arg)))
			case 3:
				p.Again(int(int8(arg)))
			case 4:
				p.Go(int(arg), d.someReplies(4))
			case 5:
				p.Go(int(arg%8), d.someReplies(2))
			case 6:
				p.Go(int(int8(arg)), append(d.someReplies(2), tooLong()))
			case 7:
				p.Go([]int{-1, 1 << 40, 65537, int(int8(arg))}[arg%4], d.someReplies(2))
			case 8:
				n := []int{-1 << 63, 1<<63 - 1, p.run.Past().Back, p.run.Past().Back / 2}[arg%4]
				if p.Back(n) == api.OK {
					p.Again(n / 2)
				}
			}
		}
		p.scan()
	})
}

package watch_test

import (
	"bytes"
	"slices"
	"sync"
	"testing"

	"playpen/api"
	"playpen/watch"
)

// P26.5, R1, R2: a watch that is nil or that New did not make: ErrNil ahead of all other errors, and nothing beside it; the others tell nothing.
func TestNoWatch(t *testing.T) {
	for what, none := range noWatches(t) {
		for range 2 {
			for _, p := range []api.Point{point(api.PointAt, 0), {}, point(api.PointAt, 10), span(api.PointRead, 0, 1)} {
				if number, err := none.Add(p); number != 0 || err != api.ErrNil {
					t.Errorf("%s: Add: %d, %d", what, number, err)
				}
			}
			for _, number := range []int{0, 1, 2, -1} {
				wantErr(t, what, none.Drop(number), api.ErrNil)
			}
			for _, at := range list(0, 1, 0xFFFFFFFF) {
				for _, count := range []int{0, 15, 16} {
					wantErr(t, what, none.Start(at, make([]uint32, count)), api.ErrNil)
				}
				if got, err := none.Word(at); got != 0 || err != api.ErrNil {
					t.Errorf("%s: Word: %d, %d", what, got, err)
				}
			}
			for _, s := range lived(sample(t)) {
				wantErr(t, what, none.Put(s), api.ErrNil)
			}
			wantErr(t, what, none.Put(api.State{}), api.ErrNil)
			for name, call := range ways() {
				for _, fuel := range []int{-1, 0, 1, api.MaxFuel, api.MaxFuel + 1} {
					for _, given := range [][]api.Reply{nil, replies(1), {tooMany()}, {tooLong()}} {
						if got, err := call(none, fuel, given); err != api.ErrNil || !sameStop(got, api.Stop{}) {
							t.Errorf("%s: %s(%d): %+v, %d", what, name, fuel, got, err)
						}
					}
				}
			}
			if none.Points() == nil {
				t.Errorf("%s: Points is nil", what)
			}
			if got := heldBy(none); !sameHeld(got, held{}) {
				t.Errorf("%s: %+v", what, got)
			}
		}
	}
}

// P26.5: nothing that is asked of a copy by hand is seen in the watch that it was copied from.
func TestCopyByHand(t *testing.T) {
	x := begun(t, sample(t), 0, nil)
	wantAdd(t, x, point(api.PointAt, 7), 0)
	wantAdd(t, x, point(api.PointAt, 9), 1)
	x.Go(9, nil)
	before := heldBy(x)
	byHand := *x
	byHand.Add(point(api.PointAt, 1))
	byHand.Drop(0)
	byHand.Start(6, nil)
	byHand.Put(api.State{})
	for _, call := range ways() {
		call(&byHand, 9, nil)
	}
	wantHeld(t, x, before)
	wantAdd(t, x, point(api.PointAt, 1), 2)
	wantOut(t, x, 9, nil, stopped(api.StopPoint, 1, 2, 9))
}

// Nothing in a list: nil and a list without elements are one thing.
func TestNothing(t *testing.T) {
	m := asker(t)
	x, err := watch.New(m.Module, nil)
	wantOK(t, err)
	y, err := watch.New(m.Module, []api.Grant{})
	wantOK(t, err)
	wantOK(t, x.Start(0, nil))
	wantOK(t, y.Start(0, []uint32{}))
	for what, call := range ways() {
		want, _ := call(x, 2, nil)
		got, err := call(y, 2, []api.Reply{})
		wantStop(t, what, got, err, want)
		wantHeld(t, y, heldBy(x))
	}
}

// roomyReplies gives the same replies with something in the spare room of their lists.
func roomyReplies(all []api.Reply) []api.Reply {
	all = clonedReplies(all)
	for i := range all {
		writes := append(all[i].Writes, write(77, 77))[:len(all[i].Writes)]
		for j, w := range writes {
			writes[j].Bytes = append(slices.Clone(w.Bytes), 77, 78)[:len(w.Bytes)]
		}
		all[i].Writes = writes
	}
	return append(all, reply(77))[:len(all)]
}

// whole gives a copy of a list with so much of its spare room.
func whole[E any](all []E, spare int) []E { return slices.Clone(all[:len(all)+spare]) }

// wantRoom wants the spare room of roomy replies to be as it was.
func wantRoom(t *testing.T, all []api.Reply) {
	t.Helper()
	for _, r := range all {
		for _, w := range r.Writes {
			if !bytes.Equal(w.Bytes[len(w.Bytes):len(w.Bytes)+2], []byte{77, 78}) {
				t.Fatal("a write's spare room changed")
			}
		}
		if w := r.Writes[len(r.Writes) : len(r.Writes)+1][0]; w.At != 77 {
			t.Fatal("a reply's spare room changed")
		}
	}
	if all[len(all) : len(all)+1][0].Value != 77 {
		t.Fatal("the replies' spare room changed")
	}
}

// roomyState gives the same state with something in the spare room of its lists.
func roomyState(s api.State) api.State {
	s.Ops = append(slices.Clone(s.Ops), 77, 78)[:len(s.Ops)]
	s.Data = append(slices.Clone(s.Data), 77, 78)[:len(s.Data)]
	return s
}

// R3: arguments stay as they are, the spare room of their lists too.
func TestArgumentsStay(t *testing.T) {
	for round := range uint64(150) {
		d := newDice(100000 + round)
		m := d.someModule(20)
		grants := append(d.someGrants(), grant(77, 7))
		grants = grants[:len(grants)-1]
		keptGrants := whole(grants, 1)
		x := watchOf(t, m, grants...)
		for range d.upTo(3) {
			x.Add(d.somePoint(m, x.State()))
		}
		for range 6 {
			given, s := roomyReplies(d.someReplies(4)), roomyState(d.someState(m))
			args := append(d.someArgs(), 77)
			args = args[:len(args)-1]
			keptArgs, keptReplies, keptOps, keptData := whole(args, 1), clonedReplies(given), whole(s.Ops, 2), whole(s.Data, 2)
			wantOK(t, x.Put(s))
			x.Go(d.upTo(20), given)
			wantOK(t, x.Start(d.someBegin(m), args))
			for _, call := range ways() {
				call(x, d.upTo(20), given)
			}
			x.Go(d.upTo(20), append(given[:len(given):len(given)], tooMany()))
			if !slices.Equal(whole(args, 1), keptArgs) || !sameReplies(given, keptReplies) || !slices.Equal(whole(grants, 1), keptGrants) ||
				!slices.Equal(whole(s.Ops, 2), keptOps) || !bytes.Equal(whole(s.Data, 2), keptData) {
				t.Fatal("an argument changed")
			}
			wantRoom(t, given)
		}
	}
}

// R3: what was handed in may be written over behind the call: nothing of it is seen in the watch. And what was answered may be: nothing of it is seen in the watch, nor in other answers.
func TestNothingIsShared(t *testing.T) {
	events, frames := 0, 0
	for round := range uint64(300) {
		d := newDice(110000 + round)
		m := d.someModule(20)
		grants := d.someGrants()
		handed := append(slices.Clone(grants), grant(99, 1))
		x, y := watchOf(t, m, handed[:len(grants)]...), watchOf(t, m, grants...)
		spoil(handed, grant(0, 15))
		for i := range d.upTo(4) {
			p := d.somePoint(m, x.State())
			wantAdd(t, x, p, i)
			wantAdd(t, y, p, i)
		}
		for range 4 {
			args, at, s := d.someArgs(), d.someBegin(m), d.someState(m)
			if own := clonedState(s); d.upTo(1) == 0 {
				wantOK(t, x.Put(own))
				wantOK(t, y.Put(s))
				spoilState(own)
			} else {
				own := append(slices.Clone(args), 5)
				wantOK(t, x.Start(at, own[:len(args)]))
				wantOK(t, y.Start(at, args))
				spoil(own, 0x77777777)
			}
			for range 4 {
				fuel, given := d.upTo(20), d.someReplies(4)
				call := ways()[[]string{"Go", "Next", "Over", "Out"}[d.upTo(3)]]
				own := roomyReplies(given)
				got, _ := call(x, fuel, own)
				spoilReplies(own)
				want, _ := call(y, fuel, given)
				if !sameStop(got, want) {
					t.Fatalf("%+v, want %+v", got, want)
				}
				events += len(got.Result.Events)
				spoilResult(got.Result)
				trail := x.Trail()
				frames += len(trail)
				spoil(trail, api.Frame{Begin: 77, From: 77})
				spoilState(x.State())
				wantHeld(t, x, heldBy(y))
			}
		}
	}
	if events < 100 || frames < 1000 {
		t.Errorf("%d events, %d frames", events, frames)
	}
}

// R3: earlier answers stay as they were, whatever the watch does later, and have no part in one another.
func TestAnswersStay(t *testing.T) {
	x := begun(t, asker(t), 0, list(1, 2), grant(1, 3), grant(2, 3))
	wantAdd(t, x, point(api.PointAt, 9), 0)
	wantOK(t, x.Drop(0))
	got, _ := x.Go(100, replies(10, 20))
	r := got.Result
	if len(r.Events) != 2 || r.End != api.EndReply || len(r.Ask.Args) != 3 {
		t.Fatalf("%+v", r)
	}
	s, trail, more, points := x.State(), x.Trail(), x.Trail(), x.Points()
	keptR, keptS, keptTrail := clonedResult(r), clonedState(s), slices.Clone(trail)
	stay := func(what string) {
		t.Helper()
		if !sameResult(r, keptR) || !sameState(s, keptS) || !slices.Equal(trail, keptTrail) || len(pointsOf(points)) != 0 {
			t.Errorf("%s: an earlier answer became another one", what)
		}
	}
	x.Go(100, replies(7, 8, 9))
	stay("Go")
	x.Start(0, many(15))
	wantAdd(t, x, point(api.PointAt, 2), 1)
	for _, call := range ways() {
		call(x, 100, replies(7, 8, 9))
	}
	stay("Start")
	spoil(more, api.Frame{Begin: 77})
	stay("another trail")
	spoil(r.Events[0].Args, 77)
	spoil(r.Ask.Args, 77)
	if !sameEvent(r.Events[1], keptR.Events[1]) {
		t.Error("the words of an event have a part in those of others")
	}
	spoil(s.Ops, 77)
	if !bytes.Equal(s.Data, keptS.Data) {
		t.Error("the words of a state have a part in its data")
	}
}

// scattered makes one of all calls to a pair.
func scattered(d *dice, p *pair) {
	m := p.book.made
	switch d.upTo(6) {
	case 0:
		p.Start(d.someBegin(m), d.someArgs())
	case 1:
		p.Put(d.someState(m))
	case 2, 3:
		meddle(d, p)
	default:
		p.does([]string{"Go", "Next", "Over", "Out"}[d.upTo(3)], d.upTo(12), d.someReplies(3))
	}
}

// R3, P26.1: the module is what it was, and watches of one module in turns, with other grants and points, do not see one another.
func TestTwoInTurns(t *testing.T) {
	for round := range uint64(120) {
		d := newDice(120000 + round)
		m := d.someModule(20)
		before, digest := m.Image(), m.Digest()
		all := []*pair{newPair(t, m, d.someGrants()...), newPair(t, m, d.someGrants()...), newPair(t, m)}
		for range 30 {
			scattered(d, all[d.upTo(2)])
			for _, one := range all {
				one.hold("another's call")
			}
		}
		if !sameImage(m.Image(), before) || m.Digest() != digest {
			t.Fatalf("%v became %v", before, m.Image())
		}
	}
}

// R4: watches of one module may go side by side; and one that nothing is done to may be looked at from several sides.
func TestSideBySide(t *testing.T) {
	m := sample(t)
	idle := begun(t, m, 0, nil)
	wantAdd(t, idle, point(api.PointAt, 3), 0)
	var all sync.WaitGroup
	for n := range 12 {
		x := begun(t, m, 0, nil)
		all.Go(func() {
			for i := range 50 {
				x.Start(0, nil)
				x.Add(when(188, api.OpEq, 41))
				if got, err := x.Go(100, nil); err != api.OK || got.Kind != api.StopPoint || got.Point != i || got.Result.Used != 3 {
					t.Errorf("%d: %+v, %d", n, got, err)
				}
				if got, err := x.Out(100, nil); err != api.OK || got.Kind != api.StopStep || got.Result.Value != 41 {
					t.Errorf("%d: %+v, %d", n, got, err)
				}
				x.Drop(i)
				s := x.State()
				put(s.Data, 188, 0)
				x.Put(s)
				if idle.Word(188); len(idle.Trail()) != 1 || len(pointsOf(idle.Points())) != 1 || idle.State().PC != 0 {
					t.Errorf("%d: another one's", n)
				}
			}
		})
	}
	all.Wait()
}

// R1: no call panics, at whatever it is given, one behind the other; and each does what its promise says.
func FuzzEveryCall(f *testing.F) {
	f.Add(uint64(1), []byte{0, 0, 4, 20, 5, 4, 2, 1, 3, 1})
	f.Add(uint64(7), []byte{0, 1, 4, 3, 4, 255, 2, 0, 3, 9, 4, 7, 2, 2, 0, 4, 3})
	f.Add(uint64(30), []byte{0, 1, 3, 200, 3, 12, 6, 9, 4, 1, 7, 1, 8, 0, 9, 0, 10, 7, 9, 8, 10, 250, 11, 3, 12, 4})
	f.Fuzz(func(t *testing.T, seed uint64, calls []byte) {
		d := newDice(seed)
		m := d.someModule(24)
		p := newPair(t, m, d.someGrants()...)
		for i := 0; i+1 < len(calls) && i < 100; i += 2 {
			arg := calls[i+1]
			switch calls[i] % 13 {
			case 0:
				p.Start(d.someBegin(m), make([]uint32, arg%18))
			case 1:
				p.Start(uint32(arg), d.someArgs())
			case 2:
				p.Put(d.someState(m))
			case 3, 4:
				p.Add(d.somePoint(m, p.book.state))
			case 5:
				p.Add(api.Point{Kind: api.PointKind(arg % 8), At: d.someWord(), Len: uint32(arg / 8 % 3), Op: api.Op(arg / 24 * 7), Value: uint32(arg / 128)})
			case 6:
				p.Drop(int(int8(arg)))
			case 7:
				p.does("Next", 1, d.someReplies(2))
			case 8:
				p.does("Over", int(arg), d.someReplies(4))
			case 9:
				p.does("Out", int(arg), d.someReplies(4))
			case 10:
				p.does("Go", int(arg), d.someReplies(4))
			case 11:
				p.does([]string{"Go", "Over", "Out", "Next"}[arg%4], []int{-1, 1 << 40, 65537, int(int8(arg))}[arg/4%4], append(d.someReplies(2), tooLong()))
			case 12:
				p.look(d.someWord() + uint32(arg))
			}
		}
	})
}

package watch_test

import (
	"slices"
	"testing"

	"playpen/alu"
	"playpen/api"
	"playpen/step"
	"playpen/watch"
)

// book is the chapter's words for a watch, read one by one over plain states, by steps of layer 18.
type book struct {
	made
	grants []api.Grant
	state  api.State
	points []numbered
	added  int
	trail  []api.Frame // the outermost first
}

// add is P26.2.
func (b *book) add(p api.Point) (int, api.Errno) {
	if !b.mayBe(p) {
		return 0, api.ErrWhere
	}
	if len(b.points) == 64 {
		return 0, api.ErrPoints
	}
	b.points = append(slices.Clone(b.points), numbered{b.added, p})
	b.added++
	return b.added - 1, api.OK
}

// mayBe is the chapter's table: the fields that a kind names, and what they may be.
func (b *book) mayBe(p api.Point) bool {
	noLen, noWhen := p.Len == 0, p.Op == 0 && p.Value == 0
	switch p.Kind {
	case 1:
		return noLen && noWhen && int64(p.At) < int64(len(b.image.Code))
	case 2:
		return noLen && noWhen && int64(p.At) < int64(len(b.image.Code)) && b.image.Code[p.At].Op == api.OpEnter
	case 3, 4:
		return p.Len >= 1 && noWhen
	case 5:
		return noLen && isBranch(p.Op)
	case 6:
		return noLen && noWhen && p.At <= 1<<31-1
	}
	return false
}

// drop is P26.2.
func (b *book) drop(number int) api.Errno {
	for i, p := range b.points {
		if p.number == number {
			b.points = append(slices.Clone(b.points[:i]), b.points[i+1:]...)
			return api.OK
		}
	}
	return api.ErrPoint
}

// start is DOC.md's Start, and what the chapter says of the trail.
func (b *book) start(at uint32, args []uint32) api.Errno {
	next, err := step.Start(b.Module, b.state, at, args)
	if err == api.OK {
		b.state, b.trail = next, []api.Frame{{Begin: at}}
	}
	return err
}

// put is chapter 19's Put, and what the chapter says of the trail.
func (b *book) put(s api.State) api.Errno {
	if !step.Fits(b.Module, s) {
		return api.ErrState
	}
	b.state, b.trail = clonedState(s), nil
	if s.Life == api.LifeRuns || s.Life == api.LifeFault {
		b.trail = []api.Frame{{Begin: b.procOf(s.PC)}}
	}
	return api.OK
}

// procOf gives where the procedure of an instruction begins.
func (m made) procOf(at uint32) uint32 {
	for m.image.Code[at].Op != api.OpEnter {
		at--
	}
	return at
}

// told gives the trail as Trail tells it.
func (b *book) told() []api.Frame {
	all := slices.Clone(b.trail)
	slices.Reverse(all)
	return all
}

// turn is one instruction that was taken.
type turn struct {
	api.Turn
	ahead, behind api.State
	in            api.Instr
	touched       []api.Touch
}

// next gives what the next instruction does, if one is taken.
func (b *book) next(t testing.TB, s api.State, left []api.Reply) (turn, bool) {
	t.Helper()
	behind, one, err := step.Step(b.Module, b.grants, s, left)
	wantOK(t, err)
	if !one.Took {
		return turn{}, false
	}
	return turn{Turn: one, ahead: s, behind: behind, in: b.image.Code[s.PC], touched: b.touches(s, behind, one, left)}, true
}

// follows is what the chapter says of the trail behind an instruction.
func (b *book) follows(trail []api.Frame, one turn) []api.Frame {
	switch {
	case one.behind.Life == api.LifeFault:
	case one.in.Op == api.OpCall && !one.Made:
		return append(slices.Clone(trail), api.Frame{Begin: one.behind.PC, From: one.ahead.PC})
	case one.in.Op == api.OpLeave && len(trail) > 0:
		return trail[:len(trail)-1]
	}
	return trail
}

// meets is the chapter's table: whether an instruction meets a point.
func (b *book) meets(p api.Point, one turn) bool {
	switch p.Kind {
	case api.PointAt:
		return one.behind.Life == api.LifeRuns && one.behind.PC == p.At
	case api.PointIn:
		return one.in.Op == api.OpCall && !one.Made && one.behind.Life == api.LifeRuns && one.behind.PC == p.At
	case api.PointRead, api.PointWrite:
		for _, x := range one.touched {
			for i := range uint32(min(uint64(p.Len), uint64(b.size()))) {
				if x.Write == (p.Kind == api.PointWrite) && x.At == (p.At+i)%b.size() {
					return true
				}
			}
		}
		return false
	case api.PointWhen:
		return b.stands(p, one.behind) && !b.stands(p, one.ahead)
	}
	return one.Made && one.Event.Number == p.At
}

// stands tells whether the word of a point stands so in a state.
func (b *book) stands(p api.Point, s api.State) bool {
	holds, _ := alu.Holds(p.Op, wordAt(s.Data, p.At), p.Value)
	return holds
}

// wordAt gives the word at an address, each byte of it masked by itself.
func wordAt(data []byte, at uint32) uint32 {
	var x uint32
	for i := range uint32(4) {
		x |= uint32(data[(at+i)%uint32(len(data))]) << (8 * i)
	}
	return x
}

// went is DOC.md's Go from the book's state: the state behind it, and the result.
func (b *book) went(t testing.TB, fuel int, given []api.Reply) (api.State, api.Result, api.Errno) {
	t.Helper()
	if fuel < 0 || fuel > 65536 {
		return b.state, api.Result{}, api.ErrFuel
	}
	for _, r := range given {
		if len(r.Writes) > 16 || slices.ContainsFunc(r.Writes, func(w api.Write) bool { return len(w.Bytes) > 256 }) {
			return b.state, api.Result{}, api.ErrReply
		}
	}
	s, r := b.state, api.Result{}
	for s.Life == api.LifeRuns {
		next, one, err := step.Step(b.Module, b.grants, s, given[r.Replies:])
		wantOK(t, err)
		if one.Waits {
			r.End, r.Ask = api.EndReply, one.Event
			break
		}
		if r.Used == fuel {
			r.End = api.EndFuel
			break
		}
		r.Used++
		if one.Made {
			r.Replies++
			r.Events = append(r.Events, one.Event)
		}
		s = next
	}
	r.At = s.PC
	switch s.Life {
	case api.LifeIdle:
		r.End = api.EndIdle
	case api.LifeDone:
		r.End, r.Value = api.EndDone, s.Value
	case api.LifeFault:
		r.End, r.Fault = api.EndFault, s.Fault
	}
	return s, r, api.OK
}

// done is P26.3: one of the calls that go on, by its name: the number n is looked for, and then a Go with the fuel n is told.
func (b *book) done(t testing.TB, what string, fuel int, given []api.Reply) (api.Stop, api.Errno) {
	t.Helper()
	if what == "Next" {
		fuel = 1
	}
	if _, _, err := b.went(t, fuel, given); err != api.OK {
		return api.Stop{}, err
	}
	n, stop, trail := b.look(t, what, fuel, given)
	b.state, stop.Result, _ = b.went(t, n, given)
	b.trail = trail
	if what == "Next" && stop.Result.Used == 1 {
		stop.Kind = api.StopStep
	}
	return stop, api.OK
}

// look gives the number n of a call that goes on, its kind and point, and the trail behind it.
func (b *book) look(t testing.TB, what string, fuel int, given []api.Reply) (int, api.Stop, []api.Frame) {
	t.Helper()
	s, trail, left := b.state, b.trail, given
	for n := 1; n <= fuel; n++ {
		one, took := b.next(t, s, left)
		if !took {
			break
		}
		if one.Made {
			left = left[1:]
		}
		s, trail = one.behind, b.follows(trail, one)
		if what == "Next" {
			continue
		}
		for _, p := range b.points {
			if b.meets(p.point, one) {
				return n, api.Stop{Kind: api.StopPoint, Point: p.number}, trail
			}
		}
		if what == "Over" && len(trail) <= len(b.trail) || what == "Out" && len(trail) < len(b.trail) {
			return n, api.Stop{Kind: api.StopStep}, trail
		}
	}
	return fuel, api.Stop{Kind: api.StopEnd}, trail
}

// touches is DOC.md's 'What is touched' of one instruction that is taken.
func (m made) touches(s, next api.State, turn api.Turn, given []api.Reply) []api.Touch {
	var all []api.Touch
	touch := func(at uint32, count int, write bool) {
		for i := range count {
			all = append(all, api.Touch{At: (at + uint32(i)) % m.size(), Write: write})
		}
	}
	one := m.image.Code[s.PC]
	loads := map[api.Op]int{api.OpLoad1: 1, api.OpLoad2: 2, api.OpLoad4: 4}
	stores := map[api.Op]int{api.OpStore1: 1, api.OpStore2: 2, api.OpStore4: 4}
	last := len(s.Ops) - 1
	switch {
	case loads[one.Op] > 0:
		touch(s.Ops[last], loads[one.Op], false)
	case stores[one.Op] > 0:
		touch(s.Ops[last-1], stores[one.Op], true)
	case one.Op == api.OpCopy:
		touch(s.Ops[last], int(one.Arg), false)
		touch(s.Ops[last-1], int(one.Arg), true)
	case one.Op == api.OpArg:
		touch(s.SP+4+4*one.Arg, 4, true)
	case one.Op == api.OpLeave && s.SP+one.Arg <= m.top():
		touch(s.SP+one.Arg, 4, false)
	case turn.Made:
		touch(s.SP+4, 4*len(turn.Event.Args), false)
		for _, w := range given[0].Writes {
			touch(w.At, len(w.Bytes), true)
		}
	case one.Op == api.OpCall && next.Life == api.LifeRuns:
		touch(s.SP, 4, true)
	}
	return all
}

// pair is a watch and, beside it, its book: each call is made to both, and what they answer and tell behind it must be the same.
type pair struct {
	t     testing.TB
	watch *watch.Watch
	book  book
}

// newPair gives the pair of a module and grants.
func newPair(t testing.TB, m made, grants ...api.Grant) *pair {
	t.Helper()
	fresh, err := step.Fresh(m.Module)
	wantOK(t, err)
	p := &pair{t: t, watch: watchOf(t, m, grants...), book: book{made: m, grants: grants, state: fresh}}
	p.hold("New")
	return p
}

// hold wants the watch to tell what the book says.
func (p *pair) hold(what string) {
	p.t.Helper()
	b := &p.book
	want := held{state: b.state, points: b.points, trail: b.told()}
	if got := heldBy(p.watch); !sameHeld(got, want) {
		p.t.Fatalf("%v, grants %v\nbehind %s: %v, trail %v, %s\nwant %v, trail %v, %s", b.image, b.grants, what,
			got.points, got.trail, shown(got.state), want.points, want.trail, shown(want.state))
	}
}

// Add adds a point.
func (p *pair) Add(one api.Point) (int, api.Errno) {
	p.t.Helper()
	want, wantErr := p.book.add(one)
	got, err := p.watch.Add(one)
	if got != want || err != wantErr {
		p.t.Fatalf("%v: Add(%+v): %d, %d; want %d, %d", p.book.image, one, got, err, want, wantErr)
	}
	p.hold("Add")
	return got, err
}

// Drop takes a point out.
func (p *pair) Drop(number int) api.Errno {
	p.t.Helper()
	want, err := p.book.drop(number), p.watch.Drop(number)
	if err != want {
		p.t.Fatalf("Drop(%d) of %v: %d, want %d", number, p.book.points, err, want)
	}
	p.hold("Drop")
	return err
}

// Start starts a procedure.
func (p *pair) Start(at uint32, args []uint32) api.Errno {
	p.t.Helper()
	want, err := p.book.start(at, args), p.watch.Start(at, args)
	if err != want {
		p.t.Fatalf("Start(%d, %d arguments): %d, want %d", at, len(args), err, want)
	}
	p.hold("Start")
	return err
}

// Put puts a state in.
func (p *pair) Put(s api.State) api.Errno {
	p.t.Helper()
	want, err := p.book.put(s), p.watch.Put(s)
	if err != want {
		p.t.Fatalf("Put(%s): %d, want %d", shown(s), err, want)
	}
	p.hold("Put")
	return err
}

// does makes one of the calls that go on, by its name.
func (p *pair) does(what string, fuel int, given []api.Reply) (api.Stop, api.Errno) {
	p.t.Helper()
	ahead := p.book.state
	want, wantErr := p.book.done(p.t, what, fuel, given)
	got, err := ways()[what](p.watch, fuel, given)
	if err != wantErr || !sameStop(got, want) {
		p.t.Fatalf("%v, grants %v, points %v\nat %s: %s(%d, %d replies): %+v, %d\nwant %+v, %d", p.book.image, p.book.grants, p.book.points, shown(ahead), what, fuel, len(given), got, err, want, wantErr)
	}
	p.hold(what)
	return got, err
}

// look looks at a word.
func (p *pair) look(at uint32) {
	p.t.Helper()
	if got, err := p.watch.Word(at); err != api.OK || got != wordAt(p.book.state.Data, at) {
		p.t.Fatalf("Word(%d): %x, %d; want %x", at, got, err, wordAt(p.book.state.Data, at))
	}
	p.hold("Word")
}

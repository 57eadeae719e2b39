package undo_test

import (
	"slices"
	"testing"

	"playpen/api"
	"playpen/step"
	"playpen/undo"
)

// page is one instruction of a book: the states ahead of it and behind it, and its events.
type page struct {
	ahead, behind api.State
	events        []api.Event
}

// book is the chapter's words for a Run, with all states written out: what is kept and undone are rows of pages, by steps of layer 18.
type book struct {
	made
	grants []api.Grant
	keep   int
	state  api.State
	kept   []page
	undone []page // the earliest first
	events []api.Event
}

// start is P25.2.
func (b *book) start(at uint32, args []uint32) api.Errno {
	next, err := step.Start(b.Module, b.state, at, args)
	if err == api.OK {
		b.state, b.kept, b.undone, b.events = next, nil, nil, nil
	}
	return err
}

// went is P25.3, and DOC.md's Go.
func (b *book) went(t testing.TB, fuel int, given []api.Reply) (api.Result, api.Errno) {
	t.Helper()
	if fuel < 0 || fuel > 65536 {
		return api.Result{}, api.ErrFuel
	}
	for _, r := range given {
		if len(r.Writes) > 16 || slices.ContainsFunc(r.Writes, func(w api.Write) bool { return len(w.Bytes) > 256 }) {
			return api.Result{}, api.ErrReply
		}
	}
	var r api.Result
	for b.state.Life == api.LifeRuns {
		next, turn, err := step.Step(b.Module, b.grants, b.state, given[r.Replies:])
		wantOK(t, err)
		if turn.Waits {
			r.End, r.Ask = api.EndReply, turn.Event
			break
		}
		if r.Used == fuel {
			r.End = api.EndFuel
			break
		}
		one := page{ahead: b.state, behind: next}
		if turn.Made {
			one.events = []api.Event{turn.Event}
		}
		r.Used++
		r.Replies += len(one.events)
		r.Events = append(r.Events, one.events...)
		b.events = append(b.events, one.events...)
		b.kept, b.undone, b.state = append(b.kept, one), nil, next
		b.kept = b.kept[max(0, len(b.kept)-b.keep):]
	}
	r.At = b.state.PC
	switch b.state.Life {
	case api.LifeDone:
		r.End, r.Value = api.EndDone, b.state.Value
	case api.LifeFault:
		r.End, r.Fault = api.EndFault, b.state.Fault
	}
	return r, api.OK
}

// back is P25.4.
func (b *book) back(n int) api.Errno {
	if n < 0 {
		return api.ErrArg
	}
	if n > len(b.kept) {
		return api.ErrBack
	}
	for range n {
		last := b.kept[len(b.kept)-1]
		b.kept, b.undone = b.kept[:len(b.kept)-1], append([]page{last}, b.undone...)
		b.state, b.events = last.ahead, b.events[:len(b.events)-len(last.events)]
	}
	return api.OK
}

// again is P25.5.
func (b *book) again(n int) api.Errno {
	if n < 0 {
		return api.ErrArg
	}
	if n > len(b.undone) {
		return api.ErrAgain
	}
	for range n {
		first := b.undone[0]
		b.kept, b.undone = append(slices.Clone(b.kept), first), b.undone[1:]
		b.state, b.events = first.behind, append(slices.Clone(b.events), first.events...)
	}
	return api.OK
}

// pair is a Run and, beside it, its book: each call is made to both, and what they answer and tell behind it must be the same.
type pair struct {
	t    testing.TB
	run  *undo.Run
	book book
}

// newPair gives the pair of a module and grants that keeps so many instructions.
func newPair(t testing.TB, m made, keep int, grants ...api.Grant) *pair {
	t.Helper()
	fresh, err := step.Fresh(m.Module)
	wantOK(t, err)
	p := &pair{t: t, run: runOf(t, m, keep, grants...), book: book{made: m, grants: grants, keep: keep, state: fresh}}
	p.hold("New")
	return p
}

// hold wants the Run to tell what the book says, and what P25.10 says.
func (p *pair) hold(what string) {
	p.t.Helper()
	b := &p.book
	want := held{state: b.state, events: b.events, past: api.Past{Back: len(b.kept), Again: len(b.undone)}}
	if got := heldBy(p.run); !sameHeld(got, want) {
		p.t.Fatalf("%v, grants %v, keep %d\nbehind %s: %+v, events %v, %s\nwant %+v, events %v, %s", b.image, b.grants, b.keep, what,
			got.past, got.events, shown(got.state), want.past, want.events, shown(want.state))
	}
	if got := p.run.Past(); got.Back < 0 || got.Again < 0 || got.Back > b.keep || got.Back+got.Again > b.keep {
		p.t.Fatalf("keep %d: %+v", b.keep, got)
	}
}

// Start starts a procedure.
func (p *pair) Start(at uint32, args []uint32) api.Errno {
	p.t.Helper()
	want, err := p.book.start(at, args), p.run.Start(at, args)
	if err != want {
		p.t.Fatalf("Start(%d, %d arguments): %d, want %d", at, len(args), err, want)
	}
	p.hold("Start")
	return err
}

// Go goes on.
func (p *pair) Go(fuel int, given []api.Reply) (api.Result, api.Errno) {
	p.t.Helper()
	ahead := p.book.state
	want, wantErr := p.book.went(p.t, fuel, given)
	got, err := p.run.Go(fuel, given)
	if err != wantErr || !sameResult(got, want) {
		p.t.Fatalf("%v, grants %v\nat %s: Go(%d, %d replies): %+v, %d\nwant %+v, %d", p.book.image, p.book.grants, shown(ahead), fuel, len(given), got, err, want, wantErr)
	}
	p.hold("Go")
	return got, err
}

// Back goes back.
func (p *pair) Back(n int) api.Errno {
	p.t.Helper()
	want, err := p.book.back(n), p.run.Back(n)
	if err != want {
		p.t.Fatalf("Back(%d): %d, want %d", n, err, want)
	}
	p.hold("Back")
	return err
}

// Again goes on again.
func (p *pair) Again(n int) api.Errno {
	p.t.Helper()
	want, err := p.book.again(n), p.run.Again(n)
	if err != want {
		p.t.Fatalf("Again(%d): %d, want %d", n, err, want)
	}
	p.hold("Again")
	return err
}

// scan goes all the way back, one by one, and all the way on again, one by one; behind each the book is held.
func (p *pair) scan() {
	p.t.Helper()
	undone := len(p.book.undone)
	for p.Back(1) == api.OK {
	}
	for p.Again(1) == api.OK {
	}
	wantOK(p.t, p.Back(undone))
}

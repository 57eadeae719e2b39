package undo_test

import (
	"testing"

	"playpen/api"
	"playpen/run"
	"playpen/step"
)

// P25.8, P9: where a Go has taken n instructions, and keep is n or more, Back(n) leaves the state and the events as they were ahead of it, and Again(n) all as it was.
func TestUndone(t *testing.T) {
	gone := 0
	for round := range uint64(500) {
		d := newDice(3000 + round)
		m := d.someModule(20)
		most := d.upTo(60)
		x := runOf(t, m, max(most, 1), d.someGrants()...)
		for range 2 {
			wantOK(t, x.Start(d.someBegin(m), d.someArgs()))
			for range 5 {
				ahead := heldBy(x)
				r, err := x.Go(d.upTo(most), d.someReplies(5))
				wantOK(t, err)
				behind := heldBy(x)
				wantOK(t, x.Back(r.Used))
				wantState(t, x, ahead.state)
				wantEvents(t, x, ahead.events...)
				wantPast(t, x, behind.past.Back-r.Used, behind.past.Again+r.Used)
				wantOK(t, x.Again(r.Used))
				wantHeld(t, x, behind)
				gone += r.Used
			}
		}
	}
	if gone < 5000 {
		t.Errorf("%d instructions", gone)
	}
}

// P25.8: a Back(n) and then an Again(n) leave the run as it was, for each n.
func TestBackAndAgain(t *testing.T) {
	for round := range uint64(300) {
		d := newDice(4000 + round)
		_, x, _ := begun(t, d)
		wantOK(t, x.Back(d.upTo(x.Past().Back)))
		before := heldBy(x)
		for n := range before.past.Back + 1 {
			wantOK(t, x.Back(n))
			wantPast(t, x, before.past.Back-n, before.past.Again+n)
			wantOK(t, x.Again(n))
			wantHeld(t, x, before)
		}
		for n := range before.past.Again + 1 {
			wantOK(t, x.Again(n))
			wantOK(t, x.Back(n))
			wantHeld(t, x, before)
		}
	}
}

// P25.8: Back(a) and then Back(b) is Back(a + b), and so with Again.
func TestBackAndBack(t *testing.T) {
	for round := range uint64(200) {
		_, x, y := begun(t, newDice(5000+round))
		far := x.Past().Back
		for a := range far + 1 {
			for b := range far - a + 1 {
				wantOK(t, x.Back(a))
				wantOK(t, x.Back(b))
				wantOK(t, y.Back(a+b))
				wantHeld(t, x, heldBy(y))
				wantOK(t, y.Again(a))
				wantOK(t, y.Again(b))
				wantOK(t, x.Again(a+b))
				wantHeld(t, x, heldBy(y))
			}
		}
	}
}

// P25.9: a Go behind a Back does what a Go from that state does: result, state, events, and what is kept is what a run keeps that was never further.
func TestGoBehindBack(t *testing.T) {
	for round := range uint64(400) {
		d := newDice(6000 + round)
		m := d.someModule(20)
		grants, keep, at, args := d.someGrants(), 40, d.someBegin(m), d.someArgs()
		x, y := runOf(t, m, keep, grants...), runOf(t, m, keep, grants...)
		wantOK(t, x.Start(at, args))
		wantOK(t, y.Start(at, args))
		fuel, given := d.upTo(keep), d.someReplies(5)
		r, _ := x.Go(fuel, given)
		back := d.upTo(r.Used)
		wantOK(t, x.Back(back))
		y.Go(r.Used-back, given)
		engine, err := run.New(m.Module, grants)
		wantOK(t, err)
		wantOK(t, engine.Put(x.State()))
		for range 3 {
			fuel, given := 1+d.upTo(20), d.someReplies(4)
			want, err := engine.Go(fuel, given)
			wantOK(t, err)
			wantResult(t, x, fuel, given, want)
			wantResult(t, y, fuel, given, want)
			wantState(t, x, engine.State())
			if want.Used > 0 {
				wantHeld(t, x, heldBy(y))
			}
		}
	}
}

// P6, P25.3: a Go that is cut anywhere comes to what the whole one comes to, and keeps the same; so it does when it goes back and on again between the parts.
func TestCutAnywhere(t *testing.T) {
	for round := range uint64(150) {
		d := newDice(7000 + round)
		m := d.someModule(20)
		grants, keep, at, args, given, all := d.someGrants(), 1+d.upTo(30), d.someBegin(m), d.someArgs(), d.someReplies(5), d.upTo(30)
		x := runOf(t, m, keep, grants...)
		wantOK(t, x.Start(at, args))
		want, _ := x.Go(all, given)
		for first := range all + 1 {
			y := runOf(t, m, keep, grants...)
			wantOK(t, y.Start(at, args))
			a, _ := y.Go(first, given)
			n := d.upTo(y.Past().Back)
			wantOK(t, y.Back(n))
			wantOK(t, y.Again(n))
			b, _ := y.Go(all-first, given[a.Replies:])
			b.Used, b.Replies, b.Events = a.Used+b.Used, a.Replies+b.Replies, append(a.Events, b.Events...)
			if !sameResult(b, want) {
				t.Fatalf("%+v, want %+v", b, want)
			}
			wantHeld(t, y, heldBy(x))
		}
	}
}

// P25.2 to P25.6, P25.10: all calls, scattered, against the book; with rings of all lengths, also much shorter than the run.
func TestScattered(t *testing.T) {
	used, made, backs, agains, ends := 0, 0, 0, 0, map[api.End]int{}
	for round := range uint64(700) {
		d := newDice(8000 + round)
		m := d.someModule(18)
		before, digest := m.Image(), m.Digest()
		p := newPair(t, m, []int{1, 2, 3, 4, 7, 8, 30, 200}[d.upTo(7)], d.someGrants()...)
		for range 60 {
			past := p.run.Past()
			switch d.upTo(9) {
			case 0:
				if d.upTo(2) == 0 || p.book.state.Life != api.LifeRuns {
					p.Start(d.someBegin(m), d.someArgs())
				}
			case 1, 2, 3:
				if p.Back(d.upTo(past.Back+1)) == api.OK {
					backs++
				}
			case 4, 5:
				if p.Again(d.upTo(past.Again+1)) == api.OK {
					agains++
				}
			default:
				r, _ := p.Go(d.upTo([]int{1, 4, 12}[d.upTo(2)]), d.someReplies(3))
				used += r.Used
				made += len(r.Events)
				ends[r.End]++
			}
			if !step.Fits(m.Module, p.run.State()) {
				t.Fatal("no state that fits")
			}
		}
		p.scan()
		if !sameImage(m.Image(), before) || m.Digest() != digest {
			t.Fatalf("%v became %v", before, m.Image())
		}
	}
	if used < 10000 || made < 300 || backs < 3000 || agains < 3000 || ends[api.EndDone] < 300 || ends[api.EndFault] < 300 || ends[api.EndReply] < 100 {
		t.Errorf("%d instructions, %d events, %d back, %d again, %v", used, made, backs, agains, ends)
	}
}

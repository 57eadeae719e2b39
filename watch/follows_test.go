package watch_test

import (
	"slices"
	"testing"

	"playpen/api"
	"playpen/run"
	"playpen/step"
)

// joined gives what came of a Go so far, with what came of its next part.
func joined(all, next api.Result) api.Result {
	next.Used += all.Used
	next.Replies += all.Replies
	next.Events = append(slices.Clone(all.Events), next.Events...)
	return next
}

// meddle adds and drops points, and looks at what there is.
func meddle(d *dice, p *pair) {
	switch d.upTo(5) {
	case 0, 1:
		p.Add(d.somePoint(p.book.made, p.book.state))
	case 2:
		if count := len(p.book.points); count > 0 {
			p.Drop(p.book.points[d.upTo(count-1)].number)
		}
	case 3:
		p.look(d.somePlace(p.book.made, p.book.state))
	case 4:
		p.Drop(d.upTo(20) - 2)
	}
}

// P26.6, P10: the results of all calls add up to what one Go of a run with as much fuel answers, and the state is the same, whatever points there are, come and go.
func TestLookedAt(t *testing.T) {
	kinds, used := map[api.StopKind]int{}, 0
	for round := range uint64(2000) {
		d := newDice(1000 + round)
		m := d.someModule(20)
		grants := d.someGrants()
		p := newPair(t, m, grants...)
		engine, err := run.New(m.Module, grants)
		wantOK(t, err)
		if d.upTo(1) == 0 {
			s := d.someState(m)
			wantOK(t, p.Put(s))
			wantOK(t, engine.Put(s))
		} else {
			at, args := d.someBegin(m), d.someArgs()
			wantOK(t, p.Start(at, args))
			wantOK(t, engine.Start(at, args))
		}
		given := d.someReplies(6)
		left, all := given, api.Result{}
		for range d.upTo(25) {
			for range d.upTo(3) {
				meddle(d, p)
			}
			what := []string{"Go", "Next", "Over", "Out"}[d.upTo(3)]
			got, err := p.does(what, d.upTo(14), left)
			wantOK(t, err)
			all = joined(all, got.Result)
			left = left[got.Result.Replies:]
			kinds[got.Kind]++
			used += got.Result.Used
			if got.Result.Used == 0 && d.upTo(2) > 0 {
				break
			}
		}
		if all.End == 0 {
			continue
		}
		want, err := engine.Go(all.Used, given)
		wantOK(t, err)
		if !sameResult(all, want) {
			t.Fatalf("%v: %+v, want %+v", m.image, all, want)
		}
		wantState(t, p.watch, engine.State())
	}
	if used < 8000 || kinds[api.StopEnd] < 500 || kinds[api.StopPoint] < 250 || kinds[api.StopStep] < 500 {
		t.Errorf("%d instructions, %v", used, kinds)
	}
}

// P26.7: whoever goes on again and again, with every point that there may be, comes to the end that the run has.
func TestComesToTheEnd(t *testing.T) {
	for round := range uint64(300) {
		d := newDice(2000 + round)
		m := d.someModule(16)
		grants := d.someGrants()
		x := begun(t, m, d.someBegin(m), d.someArgs(), grants...)
		for i := range 64 {
			wantAdd(t, x, d.somePoint(m, x.State()), i)
		}
		given := d.someReplies(6)
		for range 300 {
			got, err := x.Go(10, given)
			wantOK(t, err)
			given = given[got.Result.Replies:]
			if got.Kind == api.StopPoint && got.Result.Used < 1 {
				t.Fatalf("%+v", got)
			}
			if got.Kind == api.StopEnd && got.Result.End != api.EndFuel {
				break
			}
		}
	}
}

// lies tells whether an instruction, but for a call of a procedure, writes over one of the return words of a run.
func lies(m made, one turn, words []uint32) bool {
	if one.in.Op == api.OpCall && !one.Made {
		return false
	}
	return slices.ContainsFunc(one.touched, func(x api.Touch) bool {
		return x.Write && slices.ContainsFunc(words, func(at uint32) bool { return (x.At-at)%m.size() < 4 })
	})
}

// P26.8: in a run that a Start began, as long as no return word is written over, the trail is that of the calls that have not returned.
func TestTrailIsTheCalls(t *testing.T) {
	seen := 0
	for round := range uint64(1000) {
		d := newDice(3000 + round)
		m := d.someModule(16)
		grants := d.someGrants()
		b := book{made: m, grants: grants}
		x := begun(t, m, d.someBegin(m), d.someArgs(), grants...)
		words, given := list(m.top()), d.someReplies(6)
		for range 60 {
			s, trail := x.State(), x.Trail()
			if s.Life == api.LifeDone {
				if len(trail) != 0 || len(words) != 0 {
					t.Fatalf("%v, %v at the end", trail, words)
				}
				break
			}
			wantFrames(t, m, s, trail, words)
			seen += len(trail)
			one, took := b.next(t, s, given)
			if !took || one.behind.Life == api.LifeFault || lies(m, one, words) {
				break
			}
			got, _ := x.Next(given)
			given = given[got.Result.Replies:]
			if one.in.Op == api.OpCall && !one.Made {
				words = append(words, s.SP)
			} else if one.in.Op == api.OpLeave {
				words = words[:len(words)-1]
			}
		}
	}
	if seen < 1000 {
		t.Errorf("%d frames", seen)
	}
}

// P26.8: there Out comes back to just behind the innermost call, at each instruction of a run, and from the outermost procedure to the end.
func TestOutComesBack(t *testing.T) {
	outs := 0
	for round := range uint64(100) {
		d := newDice(4000 + round)
		m := d.someCallers(t)
		procs := m.Procs()
		x, y := begun(t, m, procs[len(procs)-1].Begin, nil), watchOf(t, m)
		for range 200 {
			s, trail := x.State(), x.Trail()
			if s.Life == api.LifeDone {
				break
			}
			wantOK(t, y.Put(s))
			got, err := y.Out(65536, nil)
			if err != api.OK || got.Kind != api.StopStep || len(trail) == 0 {
				t.Fatalf("%v: %+v, %d", m.image, got, err)
			}
			if outer := len(trail) == 1; outer != (got.Result.End == api.EndDone) || !outer && got.Result.At != trail[0].From+1 {
				t.Fatalf("%v, %v: %+v", m.image, trail, got)
			}
			outs++
			x.Next(nil)
		}
	}
	if outs < 2000 {
		t.Errorf("%d times out", outs)
	}
}

// wantFrames wants a trail to be that of a state and of return words that stand at these places, the outermost first.
func wantFrames(t *testing.T, m made, s api.State, trail []api.Frame, words []uint32) {
	t.Helper()
	if len(trail) != len(words) || len(trail) == 0 || trail[0].Begin != m.procOf(s.PC) {
		t.Fatalf("%v at %s, %d calls", trail, shown(s), len(words))
	}
	for i, frame := range trail {
		back := word(s.Data, words[len(words)-1-i])
		if i == len(trail)-1 {
			if frame.From != 0 || back != 0xFFFFFFFF {
				t.Fatalf("%v, the outermost word is %x", trail, back)
			}
		} else if back != frame.From+1 || m.procOf(frame.From) != trail[i+1].Begin || m.image.Code[frame.From].Op != api.OpCall {
			t.Fatalf("%v, %x", trail, back)
		}
	}
}

// P26.1 to P26.4: all calls, scattered, against the book.
func TestScattered(t *testing.T) {
	kinds, ends, points, deepest := map[api.StopKind]int{}, map[api.End]int{}, map[api.PointKind]int{}, 0
	for round := range uint64(900) {
		d := newDice(8000 + round)
		m := d.someModule(18)
		before, digest := m.Image(), m.Digest()
		p := newPair(t, m, d.someGrants()...)
		p.Start(d.someBegin(m), d.someArgs())
		for range d.upTo(6) {
			p.Add(d.somePoint(m, p.book.state))
		}
		for range 50 {
			switch d.upTo(9) {
			case 0:
				if d.upTo(1) == 0 || p.book.state.Life != api.LifeRuns {
					p.Start(d.someBegin(m), d.someArgs())
				}
			case 1:
				if d.upTo(3) == 0 {
					p.Put(d.someState(m))
				}
			case 2, 3, 4:
				meddle(d, p)
			default:
				what := []string{"Go", "Go", "Next", "Over", "Out"}[d.upTo(4)]
				all := slices.Clone(p.book.points)
				got, _ := p.does(what, d.upTo([]int{1, 4, 12, 40}[d.upTo(3)]), d.someReplies(3))
				kinds[got.Kind]++
				ends[got.Result.End]++
				if got.Kind == api.StopPoint {
					i := slices.IndexFunc(all, func(n numbered) bool { return n.number == got.Point })
					points[all[i].point.Kind]++
				}
				deepest = max(deepest, len(p.book.trail))
			}
			if !step.Fits(m.Module, p.watch.State()) {
				t.Fatal("no state that fits")
			}
		}
		if !sameImage(m.Image(), before) || m.Digest() != digest {
			t.Fatalf("%v became %v", before, m.Image())
		}
	}
	for kind := api.PointAt; kind <= api.PointCall; kind++ {
		if points[kind] < 15 {
			t.Errorf("points that are met, by kind: %v", points)
		}
	}
	if deepest < 5 || len(kinds) != 3 || len(ends) != 5 {
		t.Errorf("%v, %v, %d frames", kinds, ends, deepest)
	}
}

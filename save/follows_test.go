package save_test

import (
	"bytes"
	"encoding/binary"
	"slices"
	"testing"

	"playpen/api"
	"playpen/run"
	"playpen/save"
	"playpen/step"
)

// P20.7, P20.8: saves that are near to right ones, with the sum made right: what is taken fits and is saved as the same bytes again.
func TestNearlyRight(t *testing.T) {
	taken := map[bool]int{}
	for i, m := range []made{sample(t), shorter(t), asker(t), deep(t)} {
		d := newDice(uint64(2000 + i))
		for range 1500 {
			from := d.someState(m)
			to := d.near(m, from)
			for _, b := range [][]byte{whole(m, to).file(), going(m, from, to).file()} {
				for range 1 + d.upTo(1) {
					at := 28 + d.upTo(len(b)-29)
					b[at] = []byte{b[at] + 1, b[at] - 1, b[at] ^ 1<<d.upTo(7), 0, byte(d.word())}[d.upTo(4)]
				}
				_, _, err := checkLoad(t, m, sealed(b))
				_, _, other := checkApply(t, m, from, sealed(b))
				taken[err == api.OK || other == api.OK]++
			}
		}
	}
	if taken[true] < 500 || taken[false] < 500 {
		t.Errorf("taken: %v", taken)
	}
}

// P20.7: no other bytes lead to the same state: two states with the same save are the same, and each of many states has another one.
func TestOneSaveForEach(t *testing.T) {
	m := sample(t)
	seen := map[string]api.State{}
	d := newDice(7)
	for range 3000 {
		s := d.near(m, lived(t)[d.upTo(4)])
		b, _ := save.Save(m.Module, s)
		if other, is := seen[string(b)]; is && !sameState(other, s) {
			t.Fatalf("%+v and %+v have one save", s, other)
		}
		seen[string(b)] = s
	}
	if len(seen) < 2000 {
		t.Errorf("%d states", len(seen))
	}
}

// P20.9: of a save that is taken each byte turned into each other one.
func TestOneByteTurned(t *testing.T) {
	for _, m := range []made{sample(t), asker(t)} {
		from := turned(m.fresh(), 0, 7, 8)
		for _, to := range []api.State{m.fresh(), turned(stands(m, 1, m.top()), 5, 9, 10), turned(m.fresh(), 3, 200)} {
			wholeSave, delta := checkBack(t, m, to), checkThere(t, m, from, to)
			for _, b := range [][]byte{wholeSave, delta} {
				for at, was := range b {
					for x := range 256 {
						if b[at] = byte(x); b[at] == was {
							continue
						}
						if _, _, err := save.Load(m.Module, b); err == api.OK {
							t.Errorf("Load with %d at %d for %d", x, at, was)
						}
						if _, _, err := save.Apply(m.Module, from, b); err == api.OK {
							t.Errorf("Apply with %d at %d for %d", x, at, was)
						}
					}
					b[at] = was
				}
			}
		}
	}
}

// P20.9: the same of long saves, at scattered places.
func TestOneByteTurnedLong(t *testing.T) {
	m := filler(t)
	d := newDice(9)
	to := turned(m.fresh(), evens(m.size())...)
	b := checkBack(t, m, to)
	delta := checkThere(t, m, turned(m.fresh(), 0, 7), to)
	for range 60 {
		for _, file := range [][]byte{b, delta} {
			at := d.upTo(len(file) - 1)
			was := file[at]
			file[at] += byte(1 + d.upTo(254))
			wantLoadErr(t, m, file)
			if _, _, err := save.Apply(m.Module, turned(m.fresh(), 0, 7), file); err == api.OK {
				t.Errorf("Apply with the byte at %d turned", at)
			}
			file[at] = was
		}
	}
}

// wantLoadErr wants Load to refuse bytes.
func wantLoadErr(t testing.TB, m made, b []byte) {
	t.Helper()
	if s, _, err := save.Load(m.Module, b); err == api.OK || !isZero(s) {
		t.Errorf("Load of a save with a byte turned: %d", err)
	}
}

// P20.10: a Delta from a state to itself has no runs, and none to a state with as many words is shorter; a whole save is the Delta from the fresh state but for the places 16 to 27.
func TestShortest(t *testing.T) {
	for i, m := range modules(t) {
		d := newDice(uint64(3000 + i))
		for range 20_000_000 / (m.size()*20 + 200_000) {
			from := d.someState(m)
			self := checkThere(t, m, from, from)
			if binary.LittleEndian.Uint32(self[44:]) != 0 || len(self) != 48+4*len(from.Ops) {
				t.Fatalf("%d bytes, %x", len(self), self[44:48])
			}
			to := d.near(m, from)
			if b := checkThere(t, m, from, to); len(to.Ops) == len(from.Ops) && len(b) < len(self) {
				t.Fatalf("%d bytes to itself, %d to another one", len(self), len(b))
			}
			b, delta := checkBack(t, m, to), checkThere(t, m, m.fresh(), to)
			if len(b) != len(delta) || !bytes.Equal(b[:16], delta[:16]) || !bytes.Equal(b[28:], delta[28:]) || bytes.Equal(b[16:24], delta[16:24]) {
				t.Fatalf("%x, from the fresh state %x", b[:min(len(b), 99)], delta[:min(len(delta), 99)])
			}
		}
	}
}

// carried gives a state saved and loaded.
func carried(t testing.TB, m made, s api.State) api.State {
	t.Helper()
	got, _, err := checkLoad(t, m, checkBack(t, m, s))
	if err != api.OK {
		t.Fatalf("Load: %d", err)
	}
	return got
}

// machine gives a machine that holds a state.
func machine(t testing.TB, m made, grants []api.Grant, s api.State) *run.Machine {
	t.Helper()
	x, err := run.New(m.Module, grants)
	if err != api.OK {
		t.Fatalf("New: %d", err)
	}
	if err := x.Put(s); err != api.OK {
		t.Fatalf("Put: %d", err)
	}
	return x
}

// sameEvents holds two lists of events against each other.
func sameEvents(a, b []api.Event) bool {
	return slices.EqualFunc(a, b, func(x, y api.Event) bool {
		return x.At == y.At && x.Number == y.Number && slices.Equal(x.Args, y.Args) && x.Value == y.Value
	})
}

// journey is a run: a module from a state on, with grants and replies.
type journey struct {
	m       made
	grants  []api.Grant
	from    api.State
	replies []api.Reply
}

// journeys gives runs that end, meet a fault, wait for a reply and use up their fuel.
func journeys(t testing.TB) map[string]journey {
	t.Helper()
	begun := func(m made, at uint32, args ...uint32) api.State {
		s, err := step.Start(m.Module, m.fresh(), at, args)
		if err != api.OK {
			t.Fatalf("Start: %d", err)
		}
		return s
	}
	grants := []api.Grant{{Number: 1, Args: 1}, {Number: 2, Args: 2}}
	replies := []api.Reply{
		{Value: 0x01020304, Writes: []api.Write{write(2, 77), write(400, 1, 2, 3)}}, {Value: 11}, {Value: 12, Writes: []api.Write{write(0, 1)}}, {Value: 13}, {Value: 14},
	}
	m := asker(t)
	return map[string]journey{
		"asks":               {m, grants, begun(m, 0, 3), replies},
		"waits at last":      {m, grants, begun(m, 0, 3), replies[:2]},
		"lacks a grant":      {m, grants[1:], begun(m, 0, 2), replies},
		"runs out of stack":  {m, grants, begun(m, 0, 40), replies},
		"writes all over":    {m: filler(t), from: begun(filler(t), 0)},
		"goes round":         {m: deep(t), from: begun(deep(t), 0)},
		"adds":               {m: sample(t), from: begun(sample(t), 0)},
		"meets a break":      {m: sample(t), from: begun(sample(t), 5)},
		"was never started":  {m: sample(t), from: sample(t).fresh()},
		"is done, has value": {m: sample(t), from: lived(t)[2]},
	}
}

// P20.11, P6: a run that is cut at every number of fuel, saved, loaded and taken up by another machine, against the run in one.
func TestCutSavedLoaded(t *testing.T) {
	ends := map[api.End]int{}
	for what, j := range journeys(t) {
		all := 150
		straight := machine(t, j.m, j.grants, j.from)
		want, _ := straight.Go(all, j.replies)
		ends[want.End]++
		for cut := range all + 1 {
			x := machine(t, j.m, j.grants, j.from)
			first, _ := x.Go(cut, j.replies)
			x = machine(t, j.m, j.grants, carried(t, j.m, x.State()))
			second, err := x.Go(all-cut, j.replies[first.Replies:])
			if err != api.OK || second.End != want.End || second.At != want.At || second.Value != want.Value || second.Fault != want.Fault ||
				first.Used+second.Used != want.Used || first.Replies+second.Replies != want.Replies ||
				!sameEvents(append(first.Events, second.Events...), want.Events) || !sameEvents([]api.Event{second.Ask}, []api.Event{want.Ask}) {
				t.Fatalf("%s, cut at %d: %+v, then %+v, %d; want %+v", what, cut, first, second, err, want)
			}
			if !sameState(x.State(), straight.State()) {
				t.Fatalf("%s, cut at %d: another state", what, cut)
			}
		}
	}
	for end := range api.EndReply + 1 {
		if ends[end] == 0 {
			t.Errorf("no run has the end %d", end)
		}
	}
}

// P20.11, P6: a run that is saved behind each instruction, whole and as what has changed since the one ahead of it, and goes on by steps from what was loaded.
func TestSavedAtEachStep(t *testing.T) {
	for what, j := range journeys(t) {
		x := machine(t, j.m, j.grants, j.from)
		s, left := clonedState(j.from), j.replies
		for range 150 {
			next, turn, err := step.Step(j.m.Module, j.grants, carried(t, j.m, s), left)
			if err != api.OK {
				t.Fatalf("%s: Step: %d", what, err)
			}
			if _, err := x.Go(1, left); err != api.OK || !sameState(x.State(), next) {
				t.Fatalf("%s: Go at %d: %d, or another state", what, s.PC, err)
			}
			if turn.Made {
				left = left[1:]
			}
			b := checkThere(t, j.m, s, next)
			got, _, err := save.Apply(j.m.Module, s, b)
			if err != api.OK {
				t.Fatalf("%s: Apply: %d", what, err)
			}
			s = got
		}
	}
}

// P20.11: a run's saves in a row, each from the one ahead of it, lead to its end, in their order and in no other.
func TestRowOfDeltas(t *testing.T) {
	for what, j := range journeys(t) {
		x := machine(t, j.m, j.grants, j.from)
		states, rows, used := []api.State{j.from}, [][]byte{}, 0
		for range 20 {
			r, _ := x.Go(7, j.replies[used:])
			used += r.Replies
			states = append(states, x.State())
			rows = append(rows, checkThere(t, j.m, states[len(states)-2], x.State()))
		}
		s := j.from
		for i, b := range rows {
			got, _, err := save.Apply(j.m.Module, s, b)
			if err != api.OK || !sameState(got, states[i+1]) {
				t.Fatalf("%s: %d: %d, or another state", what, i, err)
			}
			for k, other := range rows {
				if !sameState(states[k], states[i]) {
					wantApply(t, what, j.m, s, other, 20, api.ErrBase)
				}
			}
			s = got
		}
	}
}

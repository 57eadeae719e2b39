package run_test

import (
	"slices"
	"testing"

	"playpen/api"
	"playpen/run"
	"playpen/step"
)

// added gives what two Gos, one behind the other, come to together.
func added(a, b api.Result) api.Result {
	sum := b
	sum.Used, sum.Replies = a.Used+b.Used, a.Replies+b.Replies
	sum.Events = slices.Concat(a.Events, b.Events)
	return sum
}

// cutRun takes a run in parts of so much fuel each; between them its state goes to another machine, and back.
func cutRun(t testing.TB, x, other *run.Machine, given []api.Reply, parts ...int) (api.Result, []api.Touch) {
	t.Helper()
	var sum api.Result
	var touched []api.Touch
	for _, fuel := range parts {
		r, err := x.Go(fuel, given[sum.Replies:])
		wantOK(t, err)
		sum = added(sum, r)
		touched = append(touched, x.Touched()...)
		wantOK(t, other.Put(x.State()))
		x, other = other, x
	}
	wantOK(t, other.Put(x.State()))
	return sum, touched
}

// wantCut wants a run from a state that is cut into parts to come to what the whole run comes to: result, state, touches.
func wantCut(t testing.TB, m made, grants []api.Grant, s api.State, given []api.Reply, parts ...int) {
	t.Helper()
	all := 0
	for _, fuel := range parts {
		all += fuel
	}
	whole, x, y := machine(t, m, grants...), machine(t, m, grants...), machine(t, m, grants...)
	for _, one := range []*run.Machine{whole, x, y} {
		one.Log(true)
		wantOK(t, one.Put(s))
	}
	want, err := whole.Go(all, given)
	wantOK(t, err)
	got, touched := cutRun(t, x, y, given, parts...)
	if !sameResult(got, want) {
		t.Fatalf("%v, grants %v, PC %d, parts %v: %+v, want %+v", m.image, grants, s.PC, parts, got, want)
	}
	wantState(t, x, whole.State())
	// The whole run's log may be full, where the parts' logs are not.
	wantTouched(t, whole, touched[:min(len(touched), api.MaxTouches)])
}

// P19.9, P6: a run that is cut at every number of fuel, with State and Put between the parts, against the whole run.
func TestCutEverywhere(t *testing.T) {
	m := asker(t)
	grants := []api.Grant{grant(1, 1), grant(2, 2)}
	x := machine(t, m)
	wantOK(t, x.Start(0, list(1, 2)))
	for count := range 5 {
		given := []api.Reply{reply(10, write(1, 2)), reply(20), reply(30, write(255, 1, 2)), reply(40)}[:count]
		for all := range 15 {
			for first := range all + 1 {
				wantCut(t, m, grants, x.State(), given, first, all-first)
				wantCut(t, m, grants[:1], x.State(), given, first, all-first)
			}
			wantCut(t, m, grants, x.State(), given, append(slices.Repeat([]int{1}, all), 0)...)
		}
	}
}

// P19.9, P6: scattered runs, cut at every number of fuel and into scattered parts, those of no fuel too; the most fuel too.
func TestCutScattered(t *testing.T) {
	for round := range uint64(250) {
		d := newDice(40000 + round)
		m := d.someModule(20)
		grants, given := d.someGrants(), d.someReplies(6)
		x := machine(t, m, grants...)
		wantOK(t, x.Start(d.someBegin(m), d.someArgs()))
		s := x.State()
		if d.upTo(2) == 0 {
			s = d.someState(m)
		}
		all := d.upTo(40)
		for first := range all + 1 {
			wantCut(t, m, grants, s, given, first, all-first)
		}
		for range 5 {
			var parts []int
			for range 1 + d.upTo(9) {
				parts = append(parts, d.upTo(8))
			}
			wantCut(t, m, grants, s, given, parts...)
		}
		half := d.upTo(api.MaxFuel)
		wantCut(t, m, grants, s, given, half, api.MaxFuel-half)
	}
}

// P19.8: a Go is one step behind another: much scattered modules, grants, arguments, fuel and replies, whole runs, hand in hand with step.Step; what is touched too (P19.5), and P3, P5.
func TestScatteredRuns(t *testing.T) {
	ends, used, made := map[api.End]int{}, 0, 0
	for round := range uint64(1200) {
		d := newDice(50000 + round)
		m := d.someModule(16)
		p := newPair(t, m, d.someGrants()...)
		before, digest := m.Image(), m.Digest()
		for range 3 {
			p.Log(d.upTo(3) > 0)
			wantOK(t, p.Start(d.someBegin(m), d.someArgs()))
			for range 6 {
				r, _ := p.Go(d.upTo(30), d.someReplies(4))
				ends[r.End]++
				used += r.Used
				made += len(r.Events)
				if d.upTo(3) == 0 {
					p.Touched()
				}
			}
			p.Touched()
		}
		if !sameImage(m.Image(), before) || m.Digest() != digest {
			t.Fatalf("%v became %v", before, m.Image())
		}
	}
	if used < 20000 || made < 1000 || ends[api.EndDone] < 100 || ends[api.EndFault] < 100 || ends[api.EndFuel] < 100 || ends[api.EndReply] < 100 {
		t.Errorf("%d instructions, %d events, ends %v", used, made, ends)
	}
}

// P19.8: where a Go waits for a reply, step.Step says so, with the same event.
func TestWaitsAsStepSays(t *testing.T) {
	waits := 0
	for round := range uint64(600) {
		d := newDice(70000 + round)
		m := d.someModule(20)
		grants := d.someGrants()
		x := machine(t, m, grants...)
		wantOK(t, x.Start(d.someBegin(m), d.someArgs()))
		for range 5 {
			r, _ := x.Go(20, d.someReplies(2))
			_, turn, err := step.Step(m.Module, grants, x.State(), nil)
			wantOK(t, err)
			if r.End == api.EndReply != turn.Waits && r.End != api.EndFuel || r.End == api.EndReply && !sameEvent(r.Ask, turn.Event) {
				t.Fatalf("%+v, %+v", r, turn)
			}
			if turn.Waits {
				waits++
				wantResult(t, x, 0, nil, api.Result{End: api.EndReply, At: x.State().PC, Ask: turn.Event})
			}
		}
	}
	if waits < 100 {
		t.Errorf("%d calls wait", waits)
	}
}

// P19.10: a Go that takes no instruction changes nothing: not the state, not the log, and nothing of what comes later.
func TestNothingTaken(t *testing.T) {
	for round := range uint64(400) {
		d := newDice(80000 + round)
		m := d.someModule(20)
		grants := d.someGrants()
		x, y := machine(t, m, grants...), machine(t, m, grants...)
		s := d.someState(m)
		for _, one := range []*run.Machine{x, y} {
			one.Log(true)
			wantOK(t, one.Put(s))
		}
		for range 6 {
			before := x.State()
			for range d.upTo(3) {
				if r, err := x.Go(0, d.someReplies(2)); err != api.OK || r.Used != 0 || r.Replies != 0 || len(r.Events) != 0 {
					t.Fatalf("%+v, %d", r, err)
				}
			}
			if before.Life != api.LifeRuns {
				if r, err := x.Go(api.MaxFuel, d.someReplies(2)); err != api.OK || r.Used != 0 || r.At != before.PC {
					t.Fatalf("%+v, %d", r, err)
				}
			}
			wantState(t, x, before)
			fuel, given := d.upTo(9), d.someReplies(3)
			r, _ := x.Go(fuel, given)
			wantResult(t, y, fuel, given, r)
			wantState(t, y, x.State())
		}
		wantTouched(t, y, x.Touched())
	}
}

// lacking gives where, among the calls that a Go has made and the one that waits, the first one of a number stands that other grants lack; -1, if there is none.
func lacking(r api.Result, less []api.Grant) (int, api.Event) {
	calls := slices.Clone(r.Events)
	if r.End == api.EndReply {
		calls = append(calls, r.Ask)
	}
	for i, e := range calls {
		if !slices.ContainsFunc(less, func(x api.Grant) bool { return x.Number == e.Number }) {
			return i, e
		}
	}
	return -1, api.Event{}
}

// P8: with fewer grants a run is the same up to the first call of a number that is lacking, and there it meets FaultSyscall; what is touched is the same up to there too.
func TestFewerGrants(t *testing.T) {
	lacks, same := 0, 0
	for round := range uint64(4000) {
		d := newDice(90000 + round)
		m := d.someModule(16)
		grants := d.someGrants()
		less := slices.DeleteFunc(slices.Clone(grants), func(api.Grant) bool { return d.upTo(2) == 0 })
		x, y := machine(t, m, grants...), machine(t, m, less...)
		at, args := d.someBegin(m), d.someArgs()
		for _, one := range []*run.Machine{x, y} {
			one.Log(true)
			wantOK(t, one.Start(at, args))
		}
		fuel, given := d.upTo(60), d.someReplies(5)
		r, _ := x.Go(fuel, given)
		i, call := lacking(r, less)
		if i < 0 {
			same++
			wantResult(t, y, fuel, given, r)
			wantState(t, y, x.State())
			wantTouched(t, y, x.Touched())
			continue
		}
		got, _ := y.Go(fuel, given)
		if got.Used == fuel && got.End == api.EndFuel && r.End == api.EndReply && i == len(r.Events) {
			// Without the fuel for it the call is no fault yet.
			got, _ = y.Go(1, nil)
			got.Replies, got.Events = i, r.Events
		}
		lacks++
		if got.End != api.EndFault || got.Fault != api.FaultSyscall || got.At != call.At || got.Replies != i || !sameEvents(got.Events, r.Events[:i]) {
			t.Fatalf("%+v, with fewer grants %+v", r, got)
		}
		upTo, all := y.Touched(), x.Touched()
		if len(upTo) > len(all) || !slices.Equal(upTo, all[:len(upTo)]) {
			t.Fatalf("%v, with fewer grants %v", all, upTo)
		}
	}
	if lacks < 100 || same < 100 {
		t.Errorf("%d lack a grant, %d do not", lacks, same)
	}
}

// P8: the same, instruction by instruction: the states are the same up to the call, and there the one is the other's but for the fault.
func TestFewerGrantsBySteps(t *testing.T) {
	m := asker(t)
	given := replies(10, 20, 30)
	for _, less := range [][]api.Grant{nil, {grant(1, 1)}, {grant(2, 2)}, {grant(2, 2), grant(1, 1)}} {
		x, y := machine(t, m, grant(1, 1), grant(2, 2), grant(7, 0)), machine(t, m, less...)
		wantOK(t, x.Start(0, nil))
		wantOK(t, y.Start(0, nil))
		left := given
		for range 12 {
			before := x.State()
			r, _ := x.Go(1, left)
			if i, call := lacking(r, less); i >= 0 {
				wantResult(t, y, 1, left, api.Result{End: api.EndFault, At: call.At, Fault: api.FaultSyscall, Used: 1})
				before.Life, before.Fault = api.LifeFault, api.FaultSyscall
				wantState(t, y, before)
				break
			}
			wantResult(t, y, 1, left, r)
			wantState(t, y, x.State())
			left = left[r.Replies:]
		}
	}
}

// P5: with any fuel and replies a Go takes no more of each than it was given; a run that asks at each instruction too.
func TestBounded(t *testing.T) {
	m := module(t, 128, "0 enter 4, 1 const -1, 2 call, 3 pop, 4 goto 1")
	for fuel := range 40 {
		for count := range 12 {
			p := newPair(t, m, grant(0, 0))
			wantOK(t, p.Start(0, nil))
			r, _ := p.Go(fuel, make([]api.Reply, count))
			want := min(count, (fuel+1)/4)
			if fuel < 3 {
				want = 0
			}
			if r.Replies != want || r.Used > fuel || len(r.Events) != want {
				t.Errorf("fuel %d, %d replies: %+v", fuel, count, r)
			}
		}
	}
	x := machine(t, m, grant(0, 0))
	wantOK(t, x.Start(0, nil))
	r, err := x.Go(api.MaxFuel, make([]api.Reply, 20000))
	if err != api.OK || r.End != api.EndFuel || r.Used != 65536 || r.Replies != 16384 || len(r.Events) != 16384 {
		t.Errorf("End %d, Used %d, Replies %d, %d events, %d", r.End, r.Used, r.Replies, len(r.Events), err)
	}
}

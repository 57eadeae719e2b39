package thread_test

import (
	"fmt"
	"slices"
	"testing"

	"playpen/api"
	"playpen/run"
	"playpen/save"
	"playpen/step"
	"playpen/thread"
)

// P24.6, P4, P3, P5: scattered runs, hand in hand with the first engine: results, states, touches; the bounds, the grants, and the module as it was.
func TestScatteredRuns(t *testing.T) {
	ends, used, made := map[api.End]int{}, 0, 0
	for round := range uint64(900) {
		d := newDice(50000 + round)
		m := d.someModule(t, 16)
		c := someCrew(t, d, m, d.someGrants()...)
		before, digest := m.Image(), m.Digest()
		for range 3 {
			c.Log(d.upTo(3) > 0)
			wantOK(t, c.Start(d.someBegin(m), d.someArgs()))
			for range 6 {
				fuel, given := d.upTo(30), d.someReplies(4)
				r, _ := c.Go(fuel, given)
				c.bounded(fuel, given, r)
				ends[r.End]++
				used += r.Used
				made += len(r.Events)
				if d.upTo(3) == 0 {
					c.Touched()
				}
			}
			c.Touched()
		}
		if !sameImage(m.Image(), before) || m.Digest() != digest {
			t.Fatalf("%v became %v", before, m.Image())
		}
	}
	if used < 20000 || made < 500 || ends[api.EndDone] < 100 || ends[api.EndFault] < 100 || ends[api.EndFuel] < 100 || ends[api.EndReply] < 100 {
		t.Errorf("%d instructions, %d events, ends %v", used, made, ends)
	}
}

// bounded holds a result against P5 and P3: fuel, replies, words, and what is granted.
func (c *crew) bounded(fuel int, given []api.Reply, r api.Result) {
	c.t.Helper()
	if r.Used > fuel || r.Replies > len(given) || r.Replies > r.Used || len(r.Events) != r.Replies || len(c.State().Ops) > 64 {
		c.t.Fatalf("Go(%d, %d replies): %+v", fuel, len(given), r)
	}
	for _, e := range r.Events {
		if !slices.Contains(c.grants, grant(e.Number, len(e.Args))) {
			c.t.Fatalf("%+v is not granted", e)
		}
	}
}

// stepped gives what a Go comes to by steps of chapter 18, from a state that runs.
func stepped(t testing.TB, m made, grants []api.Grant, s api.State, fuel int, given []api.Reply) (api.State, api.Result) {
	t.Helper()
	var r api.Result
	for s.Life == api.LifeRuns {
		next, turn, err := step.Step(m.Module, grants, s, given[r.Replies:])
		wantOK(t, err)
		if turn.Waits {
			r.End, r.Ask = api.EndReply, turn.Event
			break
		}
		if r.Used == fuel {
			r.End = api.EndFuel
			break
		}
		r.Used++
		if turn.Made {
			r.Replies++
			r.Events = append(r.Events, turn.Event)
		}
		s = next
	}
	r.At = s.PC
	switch s.Life {
	case api.LifeDone:
		r.End, r.Value = api.EndDone, s.Value
	case api.LifeFault:
		r.End, r.Fault = api.EndFault, s.Fault
	}
	return s, r
}

// outcomeOf tells what came of a Go that began at a cell.
func outcomeOf(c api.Cell, r api.Result) string {
	switch last := c.Fused.At + c.Fused.Len - 1; {
	case r.Used < int(c.Fused.Len) && r.End == api.EndFuel:
		return "cut"
	case r.End == api.EndReply && r.At == last:
		return "waits"
	case r.End == api.EndFault && r.At == last:
		return fmt.Sprint("fault ", r.Fault)
	case r.End == api.EndDone && r.At == last:
		return "done"
	case r.Replies > 0:
		return "made"
	}
	return "whole"
}

// wantedOutcomes tells what may come of each kind of cell of more than one instruction.
func wantedOutcomes() []string {
	var all []string
	for kind := api.FusePush; kind <= api.FuseBump; kind++ {
		all = append(all, fmt.Sprint(kind, " cut"), fmt.Sprint(kind, " whole"))
	}
	for _, what := range []string{"waits", "made", "fault 4", "fault 5", "fault 8"} {
		all = append(all, fmt.Sprint(api.FuseCallConst, " ", what))
	}
	return append(all, fmt.Sprint(api.FuseOpConst, " fault 2"), fmt.Sprint(api.FuseOpLocal, " fault 2"))
}

// P24.6, P24.7, P24.8: from scattered states at the first instruction of each cell, of whatever threaded code, with fuel for less than it, for it, or for more: what the steps of chapter 18 come to.
func TestEachCell(t *testing.T) {
	seen := map[string]int{}
	for round := range uint64(700) {
		d := newDice(200 + round)
		m := d.someModule(t, 20)
		grants := d.someGrants()
		code := translated(t, m)
		if d.upTo(1) == 0 {
			code = d.someCover(t, m)
		}
		x := using(t, m, code, grants...)
		for _, c := range code.Cells {
			if m.Depth(c.Fused.At) < 0 {
				continue
			}
			s := d.stateAt(m, c.Fused.At)
			fuel, given := d.upTo(int(c.Fused.Len)+2), d.someReplies(2)
			wantOK(t, x.Put(s))
			want, r := stepped(t, m, grants, s, fuel, given)
			wantResult(t, x, fuel, given, r)
			wantState(t, x, want)
			if t.Failed() {
				t.Fatalf("%v, grants %v, %v, from %d: %+v", m.image, grants, c, s.PC, code)
			}
			seen[fmt.Sprint(c.Fused.Kind, " ", outcomeOf(c, r))]++
		}
	}
	for _, what := range wantedOutcomes() {
		if seen[what] < 10 {
			t.Errorf("%s: %d times", what, seen[what])
		}
	}
}

// P24.8: a state put in that stands in the midst of a cell: the single instructions go on, and the cells behind them; with each number of fuel up to the cell's end, and more.
func TestPutInTheMidst(t *testing.T) {
	seen := map[api.FuseKind]int{}
	for round := range uint64(250) {
		d := newDice(300 + round)
		m := d.someModule(t, 16)
		grants := d.someGrants()
		x := machine(t, m, grants...)
		for _, c := range x.Cells().Cells {
			for into := uint32(1); into < c.Fused.Len; into++ {
				if m.Depth(c.Fused.At) < 0 {
					continue
				}
				s := d.stateAt(m, c.Fused.At+into)
				for _, fuel := range []int{0, 1, int(c.Fused.Len - into), int(c.Fused.Len-into) + 1 + d.upTo(20)} {
					given := d.someReplies(3)
					wantOK(t, x.Put(s))
					want, r := stepped(t, m, grants, s, fuel, given)
					wantResult(t, x, fuel, given, r)
					wantState(t, x, want)
				}
				seen[c.Fused.Kind]++
			}
		}
		if t.Failed() {
			t.Fatal(m.image)
		}
	}
	for kind := api.FusePush; kind <= api.FuseBump; kind++ {
		if seen[kind] < 20 {
			t.Errorf("kind %d: %d times", kind, seen[kind])
		}
	}
}

// P24.8: fuel that ends at each instruction of a run, within cells too: State's PC is the next instruction's index, and the state that of the single ones; and the run goes on to the same end.
func TestFuelEndsInTheMidst(t *testing.T) {
	midst := 0
	for round := range uint64(300) {
		d := newDice(400 + round)
		m := d.someModule(t, 16)
		grants := d.someGrants()
		x, y := machine(t, m, grants...), machine(t, m, grants...)
		at, args, given := d.someBegin(m), d.someArgs(), d.someReplies(4)
		wantOK(t, y.Start(at, args))
		s := y.State()
		wholeState, whole := stepped(t, m, grants, s, 60, given)
		for fuel := range whole.Used {
			wantOK(t, x.Put(s))
			want, r := stepped(t, m, grants, s, fuel, given)
			wantResult(t, x, fuel, given, r)
			wantState(t, x, want)
			if want.Life == api.LifeRuns && x.Cells().Begins[want.PC] == no {
				midst++
			}
			rest, err := x.Go(60-fuel, given[r.Replies:])
			if err != api.OK || !sameResult(added(r, rest), whole) {
				t.Fatalf("%+v and %+v, want %+v", r, rest, whole)
			}
			wantState(t, x, wholeState)
		}
		if t.Failed() {
			t.Fatal(m.image)
		}
	}
	if midst < 300 {
		t.Errorf("in the midst %d times", midst)
	}
}

// added gives what two Gos, one behind the other, come to together.
func added(a, b api.Result) api.Result {
	sum := b
	sum.Used, sum.Replies = a.Used+b.Used, a.Replies+b.Replies
	sum.Events = slices.Concat(a.Events, b.Events)
	return sum
}

// P24.7: a module's threaded code, with each of its cells in turn taken apart into single instructions, does the same.
func TestEachCellTakenApart(t *testing.T) {
	count := 0
	for round := range uint64(120) {
		d := newDice(500 + round)
		m := d.someModule(t, 8)
		var codes []api.Threaded
		whole := translated(t, m)
		for i, c := range whole.Cells {
			if c.Fused.Len > 1 {
				codes = append(codes, apart(m, whole, i))
			}
		}
		count += len(codes)
		c := newCrew(t, m, d.someGrants(), codes...)
		c.Log(true)
		for range 5 {
			wantOK(t, c.Start(d.someBegin(m), d.someArgs()))
			c.Go(d.upTo(20), d.someReplies(3))
			c.Go(d.upTo(20), d.someReplies(3))
			wantOK(t, c.Put(d.someState(m)))
			c.Go(d.upTo(20), d.someReplies(3))
			c.Touched()
		}
	}
	if count < 500 {
		t.Errorf("%d cells", count)
	}
}

// apart gives threaded code with one of its cells taken apart into single instructions.
func apart(m made, x api.Threaded, number int) api.Threaded {
	var things []api.Fused
	for i, c := range x.Cells {
		if i != number {
			things = append(things, c.Fused)
			continue
		}
		for into := range c.Fused.Len {
			things = append(things, alone(m, c.Fused.At+into))
		}
	}
	return numbered(things, m.Count())
}

// cutRun takes a run in parts of so much fuel each; between them its state is saved, loaded, and goes to the next engine.
func cutRun(t testing.TB, m made, engines []run.Engine, given []api.Reply, parts []int) (run.Engine, api.Result, []api.Touch) {
	t.Helper()
	var sum api.Result
	var touched []api.Touch
	x := engines[0]
	for i, fuel := range parts {
		r, err := x.Go(fuel, given[sum.Replies:])
		wantOK(t, err)
		sum = added(sum, r)
		touched = append(touched, x.Touched()...)
		b, err := save.Save(m.Module, x.State())
		wantOK(t, err)
		s, _, err := save.Load(m.Module, b)
		wantOK(t, err)
		x = engines[(i+1)%len(engines)]
		wantOK(t, x.Put(s))
	}
	return x, sum, touched
}

// P6, P24.6: scattered runs, cut into parts, each of which another engine takes, against the whole run.
func TestCutOverEngines(t *testing.T) {
	for round := range uint64(300) {
		d := newDice(600 + round)
		m := d.someModule(t, 20)
		grants, given := d.someGrants(), d.someReplies(6)
		first, err := run.New(m.Module, grants)
		wantOK(t, err)
		engines := []run.Engine{machine(t, m, grants...), first, using(t, m, d.someCover(t, m), grants...), using(t, m, singles(m), grants...)}
		s := d.someState(m)
		if d.upTo(2) > 0 {
			wantOK(t, first.Start(d.someBegin(m), d.someArgs()))
			s = first.State()
		}
		for range 6 {
			var parts []int
			all := 0
			for range 1 + d.upTo(9) {
				parts = append(parts, d.upTo(8))
				all += parts[len(parts)-1]
			}
			whole := machine(t, m, grants...)
			for _, one := range append(engines, whole) {
				one.Log(true)
				wantOK(t, one.Put(s))
			}
			want, err := whole.Go(all, given)
			wantOK(t, err)
			x, got, touched := cutRun(t, m, engines, given, parts)
			if !sameResult(got, want) {
				t.Fatalf("%v, grants %v, PC %d, parts %v: %+v, want %+v", m.image, grants, s.PC, parts, got, want)
			}
			wantState(t, x, whole.State())
			wantTouched(t, whole, touched)
		}
	}
}

// P24.3, P5: Gos of the most fuel, and of two numbers that come to it; logs that are full.
func TestLongRuns(t *testing.T) {
	long := 0
	for round := range uint64(60) {
		d := newDice(700 + round)
		m := d.someModule(t, 16)
		c := someCrew(t, d, m, d.someGrants()...)
		c.Log(true)
		wantOK(t, c.Start(d.someBegin(m), d.someArgs()))
		first := d.upTo(api.MaxFuel)
		for _, fuel := range []int{api.MaxFuel, first, api.MaxFuel - first} {
			if r, _ := c.Go(fuel, d.someReplies(5)); r.Used > 1000 {
				long++
			}
		}
		c.Touched()
	}
	if long < 15 {
		t.Errorf("%d are long", long)
	}
}

// P24.3: a log that is full in the midst of what a cell touches, within one Go and over two.
func TestFullLogInCell(t *testing.T) {
	for width, load := range map[uint32]string{1: "load1", 2: "load2", 4: "load4"} {
		m := module(t, 128, "0 enter 8, 1 const 5, 2 "+load+", 3 pop, 4 local 4, 5 local 4, 6 load4, 7 const 1, 8 add, 9 store4, 10 goto 4")
		wantCell(t, translated(t, m), 4, api.FuseBump, 6)
		want := reads(5, width)
		for range 8192 {
			want = append(append(want, reads(188, 4)...), writes(188, 4)...)
		}
		for _, first := range []int{0, 1, 4 + 7*8190, 4 + 7*8191, 4 + 7*8191 + 3} {
			c := crewOf(t, m)
			c.Log(true)
			wantOK(t, c.Start(0, nil))
			c.Go(first, nil)
			c.Go(4+7*8200-first, nil)
			wantTouched(t, c, want[:65536])
			c.Go(7, nil)
			wantTouched(t, c, reads(188, 4), writes(188, 4))
			if got := word(c.State().Data, 188); got != 8201 {
				t.Errorf("bumped %d times", got)
			}
		}
	}
}

// P24.2, P24.3, P24.8: a cell of nearly as many instructions as there may be is taken as one thing, and with less fuel up to each instruction.
func TestLongestCell(t *testing.T) {
	code := append([]api.Instr{in(api.OpEnter, 4)}, slices.Repeat([]api.Instr{in(api.OpNop, 0)}, api.MaxInstrs-3)...)
	m := mustTake(t, api.Image{Code: append(code, in(api.OpGoto, 1), in(api.OpBreak, 0)), Stack: 128})
	x := machine(t, m)
	wantCell(t, x.Cells(), 1, api.FuseNone, api.MaxInstrs-3)
	wantOK(t, x.Start(0, nil))
	wantResult(t, x, 100, nil, api.Result{End: api.EndFuel, At: 100, Used: 100})
	wantResult(t, x, 16383-101, nil, api.Result{End: api.EndFuel, At: 16382, Used: 16282})
	wantResult(t, x, 1, nil, api.Result{End: api.EndFuel, At: 1, Used: 1})
	wantResult(t, x, 16381, nil, api.Result{End: api.EndFuel, At: 16382, Used: 16381})
	wantResult(t, x, 1+16380, nil, api.Result{End: api.EndFuel, At: 16381, Used: 16381})
	wantResult(t, x, 65536, nil, api.Result{End: api.EndFuel, At: 16381 + 65536%16382 - 16382, Used: 65536})
}

// lacking gives where, among the calls that a Go has made and the one that waits, the first one of a number stands that other grants lack; -1, if there is none.
func lacking(r api.Result, less []api.Grant) (int, api.Event) {
	calls := slices.Clone(r.Events)
	if r.End == api.EndReply {
		calls = append(calls, r.Ask)
	}
	for i, e := range calls {
		if !slices.ContainsFunc(less, func(x api.Grant) bool { return x.Number == e.Number }) {
			return i, e
		}
	}
	return -1, api.Event{}
}

// P8: with fewer grants a run is the same up to the first call of a number that is lacking, and there it meets FaultSyscall.
func TestFewerGrants(t *testing.T) {
	lacks, same := 0, 0
	for round := range uint64(1500) {
		d := newDice(90000 + round)
		m := d.someModule(t, 16)
		grants := d.someGrants()
		less := slices.DeleteFunc(slices.Clone(grants), func(api.Grant) bool { return d.upTo(2) == 0 })
		x, y := machine(t, m, grants...), machine(t, m, less...)
		at, args := d.someBegin(m), d.someArgs()
		for _, one := range []*thread.Machine{x, y} {
			wantOK(t, one.Start(at, args))
		}
		fuel, given := d.upTo(60), d.someReplies(5)
		r, _ := x.Go(fuel, given)
		i, call := lacking(r, less)
		if i < 0 {
			same++
			wantResult(t, y, fuel, given, r)
			wantState(t, y, x.State())
			continue
		}
		got, _ := y.Go(fuel, given)
		if got.Used == fuel && got.End == api.EndFuel && r.End == api.EndReply && i == len(r.Events) {
			// Without the fuel for it the call is no fault yet.
			got, _ = y.Go(1, nil)
			got.Replies, got.Events = i, r.Events
		}
		lacks++
		if got.End != api.EndFault || got.Fault != api.FaultSyscall || got.At != call.At || got.Replies != i || !sameEvents(got.Events, r.Events[:i]) {
			t.Fatalf("%+v, with fewer grants %+v", r, got)
		}
	}
	if lacks < 50 || same < 50 {
		t.Errorf("%d lack a grant, %d do not", lacks, same)
	}
}

package run_test

import (
	"slices"
	"testing"

	"playpen/api"
	"playpen/run"
	"playpen/step"
)

// pair is a machine and, beside it, what the page's words make of the same calls, by steps of layer 18: what both come to is held against each other at each call. It is an engine itself.
type pair struct {
	t testing.TB
	made
	grants  []api.Grant
	machine *run.Machine
	state   api.State
	logs    bool
	log     []api.Touch
}

// Both are engines.
var (
	_ run.Engine = (*run.Machine)(nil)
	_ run.Engine = (*pair)(nil)
)

// newPair gives the pair of a module and grants.
func newPair(t testing.TB, m made, grants ...api.Grant) *pair {
	t.Helper()
	fresh, err := step.Fresh(m.Module)
	wantOK(t, err)
	p := &pair{t: t, made: m, grants: grants, machine: machine(t, m, grants...), state: fresh}
	p.hold("New")
	return p
}

// hold wants the machine to hold the state that it must.
func (p *pair) hold(what string) {
	p.t.Helper()
	if got := p.machine.State(); !sameState(got, p.state) {
		p.t.Fatalf("%v, grants %v\nbehind %s: Life %d, PC %d, SP %d, Ops %x, Value %x, Fault %d\nwant Life %d, PC %d, SP %d, Ops %x, Value %x, Fault %d", p.image, p.grants, what,
			got.Life, got.PC, got.SP, got.Ops, got.Value, got.Fault, p.state.Life, p.state.PC, p.state.SP, p.state.Ops, p.state.Value, p.state.Fault)
	}
}

// Start starts a procedure.
func (p *pair) Start(at uint32, args []uint32) api.Errno {
	p.t.Helper()
	want, wantErr := step.Start(p.Module, p.state, at, args)
	if wantErr == api.OK {
		p.state = want
	}
	err := p.machine.Start(at, args)
	if err != wantErr {
		p.t.Fatalf("Start(%d, %d arguments): %d, want %d", at, len(args), err, wantErr)
	}
	p.hold("Start")
	return err
}

// Go goes on.
func (p *pair) Go(fuel int, given []api.Reply) (api.Result, api.Errno) {
	p.t.Helper()
	next, want, touched, wantErr := p.went(fuel, given)
	got, err := p.machine.Go(fuel, given)
	if err != wantErr || !sameResult(got, want) {
		p.t.Fatalf("%v, grants %v\nat PC %d, SP %d, Ops %x: Go(%d, %d replies): %+v, %d\nwant %+v, %d", p.image, p.grants, p.state.PC, p.state.SP, p.state.Ops, fuel, len(given), got, err, want, wantErr)
	}
	p.bounded(fuel, given, got)
	p.state = next
	if p.logs {
		p.log = append(p.log, touched...)
		p.log = p.log[:min(len(p.log), 65536)]
	}
	p.hold("Go")
	return got, err
}

// State tells the state.
func (p *pair) State() api.State {
	p.t.Helper()
	p.hold("State")
	return p.machine.State()
}

// Put lays a state in.
func (p *pair) Put(s api.State) api.Errno {
	p.t.Helper()
	want := api.ErrState
	if step.Fits(p.Module, s) {
		p.state, want = clonedState(s), api.OK
	}
	err := p.machine.Put(s)
	if err != want {
		p.t.Fatalf("Put(%+v): %d, want %d", s, err, want)
	}
	p.hold("Put")
	return err
}

// Log begins or ends the log.
func (p *pair) Log(on bool) {
	p.t.Helper()
	p.logs, p.log = on, nil
	p.machine.Log(on)
	p.hold("Log")
}

// Touched tells the log; each place is one of the segment.
func (p *pair) Touched() []api.Touch {
	p.t.Helper()
	got := p.machine.Touched()
	if !slices.Equal(got, p.log) {
		p.t.Fatalf("%v, grants %v\ntouched: %d, %v\nwant %d, %v", p.image, p.grants, len(got), got[:min(len(got), 100)], len(p.log), p.log[:min(len(p.log), 100)])
	}
	for _, x := range got {
		if x.At >= p.size() {
			p.t.Fatalf("the byte %d of %d", x.At, p.size())
		}
	}
	p.log = nil
	p.hold("Touched")
	return got
}

// bounded holds a result against P5 and P3: fuel, replies, words, and what is granted.
func (p *pair) bounded(fuel int, given []api.Reply, r api.Result) {
	p.t.Helper()
	if r.Used > max(fuel, 0) || r.Replies > len(given) || r.Replies > r.Used || len(r.Events) != r.Replies {
		p.t.Fatalf("Go(%d, %d replies): %+v", fuel, len(given), r)
	}
	if count := len(p.machine.State().Ops); count > 64 {
		p.t.Fatalf("%d words", count)
	}
	for _, e := range r.Events {
		if args, is := p.granted(e.Number); !is || len(e.Args) != args {
			p.t.Fatalf("%+v is not granted", e)
		}
	}
}

// granted tells the words of a number that is granted.
func (p *pair) granted(number uint32) (int, bool) {
	i := slices.IndexFunc(p.grants, func(x api.Grant) bool { return x.Number == number })
	if i < 0 {
		return 0, false
	}
	return p.grants[i].Args, true
}

// went is DOC.md's Go: the state behind it, the result, what was touched.
func (p *pair) went(fuel int, given []api.Reply) (api.State, api.Result, []api.Touch, api.Errno) {
	p.t.Helper()
	if fuel < 0 || fuel > 65536 {
		return p.state, api.Result{}, nil, api.ErrFuel
	}
	for _, r := range given {
		if len(r.Writes) > 16 || slices.ContainsFunc(r.Writes, func(w api.Write) bool { return len(w.Bytes) > 256 }) {
			return p.state, api.Result{}, nil, api.ErrReply
		}
	}
	s, r := p.state, api.Result{}
	var touched []api.Touch
	for s.Life == api.LifeRuns {
		left := given[r.Replies:]
		next, turn, err := step.Step(p.Module, p.grants, s, left)
		wantOK(p.t, err)
		if turn.Waits {
			r.End, r.Ask = api.EndReply, turn.Event
			break
		}
		if r.Used == fuel {
			r.End = api.EndFuel
			break
		}
		r.Used++
		touched = append(touched, p.touches(s, next, turn, left)...)
		if turn.Made {
			r.Replies++
			r.Events = append(r.Events, turn.Event)
		}
		s = next
	}
	r.At = s.PC
	switch s.Life {
	case api.LifeDone:
		r.End, r.Value = api.EndDone, s.Value
	case api.LifeFault:
		r.End, r.Fault = api.EndFault, s.Fault
	}
	return s, r, touched, api.OK
}

// touches is DOC.md's 'What is touched' of one instruction that is taken.
func (m made) touches(s, next api.State, turn api.Turn, given []api.Reply) []api.Touch {
	var all []api.Touch
	touch := func(at uint32, count int, write bool) {
		for i := range count {
			all = append(all, api.Touch{At: (at + uint32(i)) % m.size(), Write: write})
		}
	}
	one := m.image.Code[s.PC]
	loads := map[api.Op]int{api.OpLoad1: 1, api.OpLoad2: 2, api.OpLoad4: 4}
	stores := map[api.Op]int{api.OpStore1: 1, api.OpStore2: 2, api.OpStore4: 4}
	last := len(s.Ops) - 1
	switch {
	case loads[one.Op] > 0:
		touch(s.Ops[last], loads[one.Op], false)
	case stores[one.Op] > 0:
		touch(s.Ops[last-1], stores[one.Op], true)
	case one.Op == api.OpCopy:
		touch(s.Ops[last], int(one.Arg), false)
		touch(s.Ops[last-1], int(one.Arg), true)
	case one.Op == api.OpArg:
		touch(s.SP+4+4*one.Arg, 4, true)
	case one.Op == api.OpLeave && s.SP+one.Arg <= m.top():
		touch(s.SP+one.Arg, 4, false)
	case turn.Made:
		touch(s.SP+4, 4*len(turn.Event.Args), false)
		for _, w := range given[0].Writes {
			touch(w.At, len(w.Bytes), true)
		}
	case one.Op == api.OpCall && next.Life == api.LifeRuns:
		touch(s.SP, 4, true)
	}
	return all
}

package thread_test

import (
	"slices"
	"testing"

	"playpen/api"
	"playpen/run"
	"playpen/step"
	"playpen/thread"
)

// crew is a machine of the first engine, and machines of this one with several threaded codes: each call is made to all of them, and what they answer and hold behind it must be the same (P24.3, P24.6, P24.7). It is an engine itself.
type crew struct {
	t testing.TB
	made
	grants []api.Grant
	first  *run.Machine
	others []*thread.Machine
}

// All of them are engines.
var (
	_ run.Engine = (*thread.Machine)(nil)
	_ run.Engine = (*crew)(nil)
)

// newCrew gives the crew of a module and grants: what New makes, one of single instructions, and others of these threaded codes.
func newCrew(t testing.TB, m made, grants []api.Grant, codes ...api.Threaded) *crew {
	t.Helper()
	first, err := run.New(m.Module, grants)
	wantOK(t, err)
	c := &crew{t: t, made: m, grants: grants, first: first}
	c.others = append(c.others, machine(t, m, grants...), using(t, m, singles(m), grants...))
	for _, code := range codes {
		c.others = append(c.others, using(t, m, code, grants...))
	}
	c.hold("New")
	return c
}

// crewOf gives the crew of a module and these grants.
func crewOf(t testing.TB, m made, grants ...api.Grant) *crew {
	t.Helper()
	return newCrew(t, m, grants)
}

// someCrew gives a crew with scattered threaded codes too.
func someCrew(t testing.TB, d *dice, m made, grants ...api.Grant) *crew {
	t.Helper()
	return newCrew(t, m, grants, d.someCover(t, m), d.someCover(t, m))
}

// hold wants all of them to hold the state of the first one, which fits.
func (c *crew) hold(what string) {
	c.t.Helper()
	want := c.first.State()
	if !step.Fits(c.Module, want) {
		c.t.Fatalf("behind %s: no state that fits", what)
	}
	for i, x := range c.others {
		if got := x.State(); !sameState(got, want) {
			c.t.Fatalf("%v, grants %v, cells %v\nmachine %d behind %s: Life %d, PC %d, SP %d, Ops %x, Value %x, Fault %d\nwant Life %d, PC %d, SP %d, Ops %x, Value %x, Fault %d", c.image, c.grants, x.Cells(), i, what,
				got.Life, got.PC, got.SP, got.Ops, got.Value, got.Fault, want.Life, want.PC, want.SP, want.Ops, want.Value, want.Fault)
		}
	}
}

// Start starts a procedure.
func (c *crew) Start(at uint32, args []uint32) api.Errno {
	c.t.Helper()
	want := c.first.Start(at, args)
	for i, x := range c.others {
		if err := x.Start(at, args); err != want {
			c.t.Fatalf("machine %d: Start(%d, %d arguments): %d, want %d", i, at, len(args), err, want)
		}
	}
	c.hold("Start")
	return want
}

// Go goes on.
func (c *crew) Go(fuel int, given []api.Reply) (api.Result, api.Errno) {
	c.t.Helper()
	s := c.first.State()
	want, wantErr := c.first.Go(fuel, given)
	for i, x := range c.others {
		got, err := x.Go(fuel, given)
		if err != wantErr || !sameResult(got, want) {
			c.t.Fatalf("%v, grants %v, cells %v\nat PC %d, SP %d, Ops %x: machine %d: Go(%d, %d replies): %+v, %d\nwant %+v, %d", c.image, c.grants, x.Cells(), s.PC, s.SP, s.Ops, i, fuel, len(given), got, err, want, wantErr)
		}
	}
	c.hold("Go")
	return want, wantErr
}

// State tells the state.
func (c *crew) State() api.State {
	c.t.Helper()
	c.hold("State")
	return c.others[0].State()
}

// Put lays a state in.
func (c *crew) Put(s api.State) api.Errno {
	c.t.Helper()
	want := c.first.Put(s)
	for i, x := range c.others {
		if err := x.Put(s); err != want {
			c.t.Fatalf("machine %d: Put(%+v): %d, want %d", i, s, err, want)
		}
	}
	c.hold("Put")
	return want
}

// Log begins or ends the log.
func (c *crew) Log(on bool) {
	c.t.Helper()
	c.first.Log(on)
	for _, x := range c.others {
		x.Log(on)
	}
	c.hold("Log")
}

// Touched tells the log; each place is one of the segment.
func (c *crew) Touched() []api.Touch {
	c.t.Helper()
	want := c.first.Touched()
	for i, x := range c.others {
		if got := x.Touched(); !slices.Equal(got, want) {
			c.t.Fatalf("%v, grants %v, cells %v\nmachine %d touched: %d, %v\nwant %d, %v", c.image, c.grants, x.Cells(), i, len(got), got[:min(len(got), 100)], len(want), want[:min(len(want), 100)])
		}
	}
	for _, x := range want {
		if x.At >= c.size() {
			c.t.Fatalf("the byte %d of %d", x.At, c.size())
		}
	}
	c.hold("Touched")
	return want
}

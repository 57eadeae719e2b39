package thread

import (
	"slices"

	"playpen/api"
	"playpen/gate"
)

// trip is one Go on its way.
type trip struct {
	left    int         // of the fuel
	replies []api.Reply // all of them; the result counts those that were used
	over    bool        // the run waits, or the fuel is used up
	result  api.Result  // what has come of it so far
}

// Go runs.
func (x *Machine) Go(fuel int, replies []api.Reply) (api.Result, api.Errno) {
	if !x.isMade() {
		return api.Result{}, api.ErrNil
	}
	if fuel < 0 || fuel > api.MaxFuel {
		return api.Result{}, api.ErrFuel
	}
	if slices.ContainsFunc(replies, isUnfit) {
		return api.Result{}, api.ErrReply
	}
	x.trip = &trip{left: fuel, replies: replies}
	x.loop()
	result := x.outcome(fuel)
	// Nothing of the replies is kept.
	x.trip = nil
	return result, api.OK
}

// loop goes on from cell to cell; where the run stands in the midst of one, or there is too little fuel for all of it, by a single instruction.
func (x *Machine) loop() {
	for x.state.Life == api.LifeRuns && !x.trip.over {
		number := x.threaded.Begins[x.state.PC]
		if number == api.NoCell || x.cells[number].cost > x.trip.left {
			x.takeOne()
		} else {
			x.takeCells(number)
		}
	}
}

// takeCells takes cells, one after the other, as long as there is fuel for all of the next one.
func (x *Machine) takeCells(number uint32) {
	for number != api.NoCell {
		next := &x.cells[number]
		if next.cost > x.trip.left {
			x.state.PC = next.at
			return
		}
		x.trip.left -= next.cost
		number = next.take()
	}
}

// takeOne takes the instruction at PC by itself, unless it waits or there is no fuel. Whether it waits is asked first: without fuel it waits too.
func (x *Machine) takeOne() {
	in, _ := x.module.At(x.state.PC)
	if in.Op == api.OpCall && x.isWaiting() {
		x.wait(x.state.PC)
		return
	}
	if x.trip.left == 0 {
		x.trip.over, x.trip.result.End = true, api.EndFuel
		return
	}
	x.trip.left--
	if next := x.ones[x.state.PC].take(); next != api.NoCell {
		x.state.PC = next
	}
}

// outcome gives the result of a Go of so much fuel behind its last instruction.
func (x *Machine) outcome(fuel int) api.Result {
	r := x.trip.result
	r.At, r.Used = x.state.PC, fuel-x.trip.left
	switch x.state.Life {
	case api.LifeIdle:
		r.End = api.EndIdle
	case api.LifeDone:
		r.End, r.Value = api.EndDone, x.state.Value
	case api.LifeFault:
		r.End, r.Fault = api.EndFault, x.state.Fault
	}
	return r
}

// isUnfit tells whether a reply may not be.
func isUnfit(r api.Reply) bool {
	return !gate.Fits(r)
}

package run

import (
	"slices"

	"playpen/api"
	"playpen/gate"
)

// trip is one Go on its way.
type trip struct {
	fuel    int
	replies []api.Reply // all of them; the result counts those that were used
	at      uint32      // the index of the instruction that is taken
	result  api.Result  // what has come of it so far
}

// Go goes on for at most so many instructions.
func (m *Machine) Go(fuel int, replies []api.Reply) (result api.Result, err api.Errno) {
	if !m.isMade() {
		return api.Result{}, api.ErrNil
	}
	if fuel < 0 || fuel > api.MaxFuel {
		return api.Result{}, api.ErrFuel
	}
	if slices.ContainsFunc(replies, isUnfit) {
		return api.Result{}, api.ErrReply
	}
	m.trip = &trip{fuel: fuel, replies: replies}
	defer func() {
		result = m.outcome()
		// Nothing of the replies is kept.
		m.trip = nil
	}()
	m.loop()
	return api.Result{}, api.OK
}

// loop takes instruction by instruction, as long as the run goes on, waits for no reply and has fuel left. A fault ends it from wherever it is met.
func (m *Machine) loop() {
	ahead := m.state
	defer func() {
		if kind, is := recover().(api.Fault); is {
			// The words that the instruction took are still there: none puts a word over them ahead of its fault.
			m.state = ahead
			m.state.Life, m.state.Fault = api.LifeFault, kind
		}
	}()
	table := operations()
	for m.state.Life == api.LifeRuns {
		// A state that fits stands at an instruction.
		in, _ := m.module.At(m.state.PC)
		if number, is := m.waiting(in); is {
			m.trip.result.End, m.trip.result.Ask = api.EndReply, m.asked(number)
			return
		}
		if m.trip.result.Used == m.trip.fuel {
			m.trip.result.End = api.EndFuel
			return
		}
		m.trip.result.Used++
		m.trip.at, ahead = m.state.PC, m.state
		// Where most instructions go on; the others lay another one in.
		m.state.PC++
		table[in.Op](m, in)
	}
}

// waiting tells the number of the system call that an instruction makes, if it is granted and no reply is left.
func (m *Machine) waiting(in api.Instr) (uint32, bool) {
	if in.Op != api.OpCall || m.trip.result.Replies < len(m.trip.replies) {
		return 0, false
	}
	number, is := gate.Number(m.state.Ops[len(m.state.Ops)-1])
	_, granted := m.door.Granted(number)
	return number, is && granted
}

// asked gives the event of a system call that waits. Its words are read from a clone, so that they are not noted.
func (m *Machine) asked(number uint32) api.Event {
	words, _ := m.door.Words(m.memory.Clone(), m.state.SP, number)
	event, _ := m.door.Event(m.state.PC, number, words, api.Reply{})
	return event
}

// outcome gives the Go's result behind its last instruction.
func (m *Machine) outcome() api.Result {
	r := m.trip.result
	r.At = m.state.PC
	switch m.state.Life {
	case api.LifeIdle:
		r.End = api.EndIdle
	case api.LifeDone:
		r.End, r.Value = api.EndDone, m.state.Value
	case api.LifeFault:
		r.End, r.Fault = api.EndFault, m.state.Fault
	}
	return r
}

// isUnfit tells whether a reply may not be.
func isUnfit(r api.Reply) bool {
	return !gate.Fits(r)
}

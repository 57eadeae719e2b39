package run

import (
	"playpen/alu"
	"playpen/api"
	"playpen/gate"
)

func (m *Machine) stop(api.Instr) {
	panic(api.FaultBreak)
}

func (m *Machine) goOn(in api.Instr) {
	m.state.PC = in.Arg
}

func (m *Machine) jump(api.Instr) {
	to := m.pop()
	if !m.module.Legal(m.trip.at, to) {
		panic(api.FaultJump)
	}
	m.state.PC = to
}

func (m *Machine) branch(in api.Instr) {
	a, b := m.popTwo()
	if holds, _ := alu.Holds(in.Op, a, b); holds {
		m.state.PC = in.Arg
	}
}

// enter makes room for a frame on the program stack.
func (m *Machine) enter(in api.Instr) {
	// Added, not taken away: SP less the frame may be below nought.
	if m.state.SP < m.bottom+in.Arg {
		panic(api.FaultStack)
	}
	m.state.SP -= in.Arg
}

// leave ends a procedure: it returns, or the run is at its end. The word that says where to is one of the data, so a module may have forged it.
func (m *Machine) leave(in api.Instr) {
	sp := m.state.SP + in.Arg
	if sp > m.top {
		panic(api.FaultStack)
	}
	back := m.memory.Load4(sp)
	if back == api.DoneMark {
		m.finish(sp)
		return
	}
	below := len(m.state.Ops) - m.module.Depth(back)
	if !m.module.Back(back) || below < 0 {
		panic(api.FaultReturn)
	}
	if m.isDeep(back, below) {
		panic(api.FaultDeep)
	}
	m.state.SP, m.state.PC = sp, back
}

// finish ends the run: PC stays at its last leave.
func (m *Machine) finish(sp uint32) {
	m.state.Life, m.state.Value = api.LifeDone, m.pop()
	m.state.SP, m.state.PC = sp, m.trip.at
}

// call calls a procedure or, by a word below 0, the host.
func (m *Machine) call(api.Instr) {
	word := m.pop()
	if number, is := gate.Number(word); is {
		m.ask(number)
		return
	}
	if !m.module.Begins(word) {
		panic(api.FaultCall)
	}
	if m.isDeep(word, len(m.state.Ops)) {
		panic(api.FaultDeep)
	}
	m.memory.Store4(m.state.SP, m.trip.at+1)
	m.state.PC = word
}

// ask makes a system call; of one that is granted the loop has seen that a reply is left.
func (m *Machine) ask(number uint32) {
	words, granted := m.door.Words(m.memory, m.state.SP, number)
	if !granted {
		panic(api.FaultSyscall)
	}
	r := &m.trip.result
	reply := m.trip.replies[r.Replies]
	// The gate refuses nothing of it: the words are as many as were granted, and the reply fits.
	event, _ := m.door.Event(m.trip.at, number, words, reply)
	m.door.Apply(m.memory, reply)
	m.push(reply.Value)
	r.Replies++
	r.Events = append(r.Events, event)
}

// isDeep tells whether the procedure of an instruction may need more words than are left, where so many below its own are on the operand stack.
func (m *Machine) isDeep(at uint32, below int) bool {
	proc, _ := m.module.ProcOf(at)
	return below+proc.Need > api.MaxOps
}

package run

import "playpen/api"

func (m *Machine) load1(api.Instr) {
	m.push(m.memory.Load1(m.pop()))
}

func (m *Machine) load2(api.Instr) {
	m.push(m.memory.Load2(m.pop()))
}

func (m *Machine) load4(api.Instr) {
	m.push(m.memory.Load4(m.pop()))
}

func (m *Machine) store1(api.Instr) {
	m.memory.Store1(m.popTwo())
}

func (m *Machine) store2(api.Instr) {
	m.memory.Store2(m.popTwo())
}

func (m *Machine) store4(api.Instr) {
	m.memory.Store4(m.popTwo())
}

func (m *Machine) copy(in api.Instr) {
	to, from := m.popTwo()
	// No window of an instruction that may be is refused.
	m.memory.Copy(to, from, in.Arg)
}

// argument lays a word of the next call down; at SP itself a call keeps where it comes back.
func (m *Machine) argument(in api.Instr) {
	m.memory.Store4(m.state.SP+4+4*in.Arg, m.pop())
}

package run

import (
	"playpen/alu"
	"playpen/api"
)

// push puts a word on the operand stack.
func (m *Machine) push(word uint32) {
	m.state.Ops = append(m.state.Ops, word)
}

// pop takes the top word; a state that fits has as many as its instruction takes.
func (m *Machine) pop() uint32 {
	last := len(m.state.Ops) - 1
	word := m.state.Ops[last]
	m.state.Ops = m.state.Ops[:last]
	return word
}

// popTwo takes two words: b stood on top of a.
func (m *Machine) popTwo() (a, b uint32) {
	b = m.pop()
	a = m.pop()
	return a, b
}

func (m *Machine) nop(api.Instr) {}

func (m *Machine) constant(in api.Instr) {
	m.push(in.Arg)
}

func (m *Machine) local(in api.Instr) {
	m.push(m.state.SP + in.Arg)
}

func (m *Machine) drop(api.Instr) {
	m.pop()
}

func (m *Machine) double(api.Instr) {
	word := m.pop()
	m.push(word)
	m.push(word)
}

func (m *Machine) unary(in api.Instr) {
	word, _ := alu.Unary(in.Op, m.pop())
	m.push(word)
}

func (m *Machine) binary(in api.Instr) {
	a, b := m.popTwo()
	word, err := alu.Binary(in.Op, a, b)
	if err == api.ErrDivide {
		panic(api.FaultDivide)
	}
	m.push(word)
}

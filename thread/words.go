package thread

import (
	"playpen/alu"
	"playpen/api"
	"playpen/mem"
)

// source gives the word that a cell's last instruction takes first: from the operand stack, or what the instructions ahead of it would have put there.
type source func() uint32

// known is the source of a word that is known.
func known(word uint32) source {
	return func() uint32 { return word }
}

// place is the source of the address of a local word.
func (x *Machine) place(n uint32) source {
	return func() uint32 { return x.state.SP + n }
}

// loaded is the source of a local word itself.
func (x *Machine) loaded(n uint32) source {
	return func() uint32 { return x.memory.Load4(x.state.SP + n) }
}

// push puts a word on the operand stack.
func (x *Machine) push(word uint32) {
	x.state.Ops = append(x.state.Ops, word)
}

// pop takes the top word; a state that fits has as many as its instruction takes.
func (x *Machine) pop() uint32 {
	last := len(x.state.Ops) - 1
	word := x.state.Ops[last]
	x.state.Ops = x.state.Ops[:last]
	return word
}

// goesTo gives what only goes to a cell.
func goesTo(number uint32) deed {
	return func() uint32 { return number }
}

func (s site) push(word source) deed {
	x := s.x
	return func() uint32 {
		x.push(word())
		return s.next
	}
}

func (s site) drop() deed {
	x := s.x
	return func() uint32 {
		x.pop()
		return s.next
	}
}

func (s site) double() deed {
	x := s.x
	return func() uint32 {
		word := x.pop()
		x.push(word)
		x.push(word)
		return s.next
	}
}

func (s site) unary(op api.Op) deed {
	x := s.x
	return func() uint32 {
		word, _ := alu.Unary(op, x.pop())
		x.push(word)
		return s.next
	}
}

func (s site) binary(op api.Op, second source) deed {
	x := s.x
	return func() uint32 {
		b := second()
		a := x.pop()
		word, err := alu.Binary(op, a, b)
		if err == api.ErrDivide {
			x.push(a)
			x.push(b)
			return s.fault(api.FaultDivide)
		}
		x.push(word)
		return s.next
	}
}

func (s site) branch(op api.Op, second source) deed {
	x := s.x
	return func() uint32 {
		b := second()
		if holds, _ := alu.Holds(op, x.pop(), b); holds {
			return s.to
		}
		return s.next
	}
}

func (s site) load(op api.Op, at source) deed {
	x, read := s.x, reader(op)
	return func() uint32 {
		x.push(read(x.memory, at()))
		return s.next
	}
}

func (s site) store(op api.Op, word source) deed {
	x, write := s.x, writer(op)
	return func() uint32 {
		b := word()
		write(x.memory, x.pop(), b)
		return s.next
	}
}

// reader gives how memory, which is another one behind each Start and Put, is read by a load.
func reader(op api.Op) func(m *mem.Memory, at uint32) uint32 {
	switch op {
	case api.OpLoad1:
		return (*mem.Memory).Load1
	case api.OpLoad2:
		return (*mem.Memory).Load2
	}
	return (*mem.Memory).Load4
}

// writer gives likewise how it is written by a store.
func writer(op api.Op) func(m *mem.Memory, at, word uint32) {
	switch op {
	case api.OpStore1:
		return (*mem.Memory).Store1
	case api.OpStore2:
		return (*mem.Memory).Store2
	}
	return (*mem.Memory).Store4
}

func (s site) copy(n uint32) deed {
	x := s.x
	return func() uint32 {
		from := x.pop()
		// No window of an instruction that may be is refused.
		x.memory.Copy(x.pop(), from, n)
		return s.next
	}
}

// argument lays a word of the next call down; at SP itself a call keeps where it comes back.
func (s site) argument(n uint32, word source) deed {
	x := s.x
	return func() uint32 {
		x.memory.Store4(x.state.SP+4+4*n, word())
		return s.next
	}
}

// bump works on a local word where it stands. No operation of this shape meets a fault.
func (s site) bump(thing api.Fused) deed {
	x := s.x
	return func() uint32 {
		at := x.state.SP + thing.A
		word, _ := alu.Binary(thing.Op, x.memory.Load4(at), thing.B)
		x.memory.Store4(at, word)
		return s.next
	}
}

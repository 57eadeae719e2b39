package step

import (
	"playpen/alu"
	"playpen/api"
	"playpen/isa"
)

// do does what an instruction says.
func (x *machine) do(in api.Instr) error {
	switch in.Op {
	case api.OpNop:
	case api.OpBreak:
		return fault{api.FaultBreak}
	case api.OpEnter:
		return x.enter(in.Arg)
	case api.OpLeave:
		return x.leave(in.Arg)
	case api.OpCall:
		return x.call()
	case api.OpGoto:
		x.state.PC = in.Arg
	case api.OpJump:
		return x.jump()
	case api.OpConst:
		x.push(in.Arg)
	case api.OpLocal:
		x.push(x.state.SP + in.Arg)
	case api.OpPop:
		x.pop()
	case api.OpDup:
		word := x.pop()
		x.push(word)
		x.push(word)
	case api.OpArg, api.OpLoad1, api.OpLoad2, api.OpLoad4, api.OpStore1, api.OpStore2, api.OpStore4, api.OpCopy:
		x.touch(in)
	default:
		return x.work(in)
	}
	return nil
}

// touch reads or writes data.
func (x *machine) touch(in api.Instr) {
	switch in.Op {
	case api.OpArg:
		// At SP itself a call keeps where it comes back.
		x.memory.Store4(x.state.SP+4+4*in.Arg, x.pop())
	case api.OpLoad1:
		x.push(x.memory.Load1(x.pop()))
	case api.OpLoad2:
		x.push(x.memory.Load2(x.pop()))
	case api.OpLoad4:
		x.push(x.memory.Load4(x.pop()))
	case api.OpStore1, api.OpStore2, api.OpStore4:
		x.store(in.Op)
	case api.OpCopy:
		to, from := x.popTwo()
		// No window of an instruction that may be is refused.
		x.memory.Copy(to, from, in.Arg)
	}
}

// store lays bytes of the top word down at the one below it.
func (x *machine) store(op api.Op) {
	to, word := x.popTwo()
	switch op {
	case api.OpStore1:
		x.memory.Store1(to, word)
	case api.OpStore2:
		x.memory.Store2(to, word)
	case api.OpStore4:
		x.memory.Store4(to, word)
	}
}

// work asks layer 6 what to make of one word or of two, or whether to go elsewhere.
func (x *machine) work(in api.Instr) error {
	row, _ := isa.Info(in.Op)
	switch {
	case row.Kind == api.KindBranch:
		x.branch(in)
	case row.Takes == 1:
		word, _ := alu.Unary(in.Op, x.pop())
		x.push(word)
	default:
		return x.combine(in.Op)
	}
	return nil
}

// branch goes to the operand, if the comparison holds.
func (x *machine) branch(in api.Instr) {
	a, b := x.popTwo()
	if holds, _ := alu.Holds(in.Op, a, b); holds {
		x.state.PC = in.Arg
	}
}

// combine makes one word of two.
func (x *machine) combine(op api.Op) error {
	a, b := x.popTwo()
	word, err := alu.Binary(op, a, b)
	if err == api.ErrDivide {
		return fault{api.FaultDivide}
	}
	x.push(word)
	return nil
}

// jump goes to the word that it takes.
func (x *machine) jump() error {
	to := x.pop()
	if !x.module.Legal(x.at, to) {
		return fault{api.FaultJump}
	}
	x.state.PC = to
	return nil
}

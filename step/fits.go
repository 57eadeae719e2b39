package step

import (
	"playpen/api"
	"playpen/verify"
)

// bounds is how much data a module has, and where SP may be in them.
type bounds struct {
	size   uint32 // bytes of the data segment
	bottom uint32 // the least SP: there the program stack begins
	top    uint32 // the greatest SP: just the first frame of a run is behind it
}

// boundsOf tells the bounds of a module, which is not none. No subtraction goes below nought: a stack has at least a frame's bytes, and the segment at least the stack's.
func boundsOf(m *verify.Module) bounds {
	size := uint32(1) << m.Bits()
	return bounds{size: size, bottom: size - m.Image().Stack, top: size - 4*frameWords}
}

// isNone tells whether a module is nil or verify did not make it: any that it made has bits.
func isNone(m *verify.Module) bool {
	return m.Bits() == 0
}

// fits tells whether a state fits a module of which the bounds are known.
func fits(m *verify.Module, b bounds, s api.State) bool {
	return len(s.Data) == int(b.size) && b.holds(s.SP) && fitsLife(m, b, s) && fitsEnd(s)
}

// holds tells whether SP may be there.
func (b bounds) holds(sp uint32) bool {
	return sp%4 == 0 && sp >= b.bottom && sp <= b.top
}

// fitsLife tells whether PC, SP and Ops are as the state's Life wants them.
func fitsLife(m *verify.Module, b bounds, s api.State) bool {
	depth := m.Depth(s.PC)
	reached := depth >= 0
	switch s.Life {
	case api.LifeIdle:
		return s.PC == 0 && s.SP == b.top && len(s.Ops) == 0
	case api.LifeRuns, api.LifeFault:
		return reached && len(s.Ops) >= depth && !isDeep(m, s.PC, len(s.Ops)-depth)
	case api.LifeDone:
		in, _ := m.At(s.PC)
		return reached && in.Op == api.OpLeave && !isDeep(m, s.PC, len(s.Ops))
	}
	return false
}

// fitsEnd tells whether Value and Fault are as the state's Life wants them.
func fitsEnd(s api.State) bool {
	if s.Life != api.LifeDone && s.Value != 0 {
		return false
	}
	if s.Life != api.LifeFault {
		return s.Fault == 0
	}
	return s.Fault >= api.FaultBreak && s.Fault <= api.FaultSyscall
}

// isDeep tells whether the procedure of an instruction may need more words than are left, where so many below its own are on the operand stack.
func isDeep(m *verify.Module, at uint32, below int) bool {
	proc, _ := m.ProcOf(at)
	return below+proc.Need > api.MaxOps
}

package watch

import (
	"slices"

	"playpen/alu"
	"playpen/api"
)

// comesTo is met where the run has come to an instruction.
type comesTo struct{ index uint32 }

func (p comesTo) ahead(*view) question {
	return func(done taken) bool { return done.runs && done.at == p.index }
}

// enters is met by a call of a procedure.
type enters struct{ begin uint32 }

func (p enters) ahead(v *view) question {
	isCall := v.instr().Op == api.OpCall
	return func(done taken) bool { return isCall && done.at == p.begin }
}

// window is a span of addresses, which may go round the segment's end, and round itself.
type window struct{ at, count uint32 }

// has tells whether a byte of a segment lies in the window.
func (w window) has(at, size uint32) bool { return (at-w.at)%size < w.count }

// touched asks whether a byte of the window was touched, for reading or for writing.
func (w window) touched(v *view, write bool) question {
	size := v.size()
	return func(done taken) bool {
		return slices.ContainsFunc(done.touched, func(t api.Touch) bool { return t.Write == write && w.has(t.At, size) })
	}
}

// reads is met where a byte was read.
type reads struct{ window }

func (p reads) ahead(v *view) question { return p.touched(v, false) }

// writes is met where a byte was written.
type writes struct{ window }

func (p writes) ahead(v *view) question { return p.touched(v, true) }

// becomes is met where a word stands to a value as it did not ahead of the instruction.
type becomes struct {
	at    uint32
	op    api.Op
	value uint32
}

func (p becomes) ahead(v *view) question {
	stood := p.stands(v)
	return func(taken) bool { return !stood && p.stands(v) }
}

// stands tells whether the word stands so now.
func (p becomes) stands(v *view) bool {
	// A point that may be has a comparison.
	holds, _ := alu.Holds(p.op, v.word(p.at), p.value)
	return holds
}

// asks is met by a system call that was answered.
type asks struct{ number uint32 }

func (p asks) ahead(*view) question {
	return func(done taken) bool {
		return slices.ContainsFunc(done.events, func(e api.Event) bool { return e.Number == p.number })
	}
}

package watch

import (
	"slices"

	"playpen/api"
	"playpen/mem"
	"playpen/run"
	"playpen/verify"
)

// view is what can be seen of a run while it goes on.
type view struct {
	module *verify.Module
	engine *run.Machine
	at     uint32      // where the run is
	memory *mem.Memory // the data as they are, if a word of them was asked for since they were last written to; else nil
}

// instr gives the instruction at which the run is.
func (v *view) instr() api.Instr {
	in, _ := v.module.At(v.at)
	return in
}

// size tells how many bytes the data segment has.
func (v *view) size() uint32 { return 1 << v.module.Bits() }

// word gives the word at an address.
func (v *view) word(at uint32) uint32 {
	if v.memory == nil {
		v.memory = memoryOf(v.engine)
	}
	return v.memory.Load4(at)
}

// moveOn makes the view one from behind an instruction.
func (v *view) moveOn(done taken) {
	v.at = done.at
	// To take the data out is dear, so it is done only where they may be other ones.
	if slices.ContainsFunc(done.touched, func(t api.Touch) bool { return t.Write }) {
		v.memory = nil
	}
}

package procs

import (
	"playpen/api"
	"playpen/isa"
)

// Find finds the procedures of code, and tells the index of the first fault.
func Find(code []api.Instr, jumps []uint32, names []api.Export) (*Procs, int, api.Errno) {
	if _, at, err := isa.Encode(code); err != api.OK {
		return nil, at, err
	}
	if len(code) == 0 || code[0].Op != api.OpEnter {
		return nil, 0, api.ErrFirst
	}
	p := cut(code)
	if at, err := p.checkCode(code); err != api.OK {
		return nil, at, err
	}
	if at, err := p.takeJumps(jumps); err != api.OK {
		return nil, at, err
	}
	if at, err := p.checkNames(names); err != api.OK {
		return nil, at, err
	}
	return p, 0, api.OK
}

// cut cuts code that begins with an enter into its procedures.
func cut(code []api.Instr) *Procs {
	p := &Procs{begins: emptySet(len(code)), jumps: emptySet(len(code))}
	p.self = p
	for i, in := range code {
		if in.Op == api.OpEnter {
			p.begins.Add(uint32(i))
		}
	}
	for begin := range p.begins.All() {
		if last := len(p.list) - 1; last >= 0 {
			p.list[last].End = begin
		}
		p.list = append(p.list, api.Proc{Begin: begin, End: uint32(len(code)), Frame: code[begin].Arg})
	}
	return p
}

// emptySet makes a set of indices; code that may be has fewer instructions than the greatest bound.
func emptySet(count int) *Set[uint32] {
	s, _ := NewSet[uint32](count)
	return s
}

// checkCode tells the first fault of the instructions, procedure by procedure.
func (p *Procs) checkCode(code []api.Instr) (int, api.Errno) {
	for _, proc := range p.All() {
		for at := proc.Begin; at < proc.End; at++ {
			if err := checkInstr(code[at], at, proc); err != api.OK {
				return int(at), err
			}
		}
	}
	return 0, api.OK
}

// checkInstr tells whether an instruction may stand at an index of its procedure.
func checkInstr(in api.Instr, at uint32, proc api.Proc) api.Errno {
	info, _ := isa.Info(in.Op)
	kind := info.Kind
	switch {
	case kind == api.KindEnter && !mayBeFrame(in.Arg), kind == api.KindLeave && in.Arg != proc.Frame:
		return api.ErrFrame
	case (kind == api.KindGoto || kind == api.KindBranch) && !isInside(proc, in.Arg):
		return api.ErrTarget
	case at == proc.End-1 && !endsProc(kind):
		return api.ErrEnds
	}
	return api.OK
}

// mayBeFrame tells whether a frame may have so many bytes.
func mayBeFrame(bytes uint32) bool {
	return bytes%4 == 0 && bytes > 0 && bytes <= api.MaxFrame
}

// isInside tells whether an index lies inside a procedure: its enter does not, since only a call comes to that.
func isInside(proc api.Proc, index uint32) bool {
	return index > proc.Begin && index < proc.End
}

// endsProc tells whether an operation of a kind never goes on at the next instruction.
func endsProc(kind api.OpKind) bool {
	switch kind {
	case api.KindGoto, api.KindJump, api.KindLeave, api.KindStop:
		return true
	}
	return false
}

// takeJumps puts the jump targets in, or tells the first one's place that may not be.
func (p *Procs) takeJumps(jumps []uint32) (int, api.Errno) {
	for i, to := range jumps {
		if i > 0 && to <= jumps[i-1] || p.Of(to) < 0 || p.Begins(to) {
			return i, api.ErrJumpTo
		}
		p.jumps.Add(to)
	}
	return 0, api.OK
}

// checkNames tells the place of the first name that stands for no procedure.
func (p *Procs) checkNames(names []api.Export) (int, api.Errno) {
	for i, name := range names {
		if !p.Begins(name.At) {
			return i, api.ErrExport
		}
	}
	return 0, api.OK
}

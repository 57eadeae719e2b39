package thread

import (
	"playpen/api"
	"playpen/isa"
)

// deed does what a cell's instructions do, and tells the number of the cell that comes next; NoCell where the run stops: it has laid its PC in then.
type deed func() uint32

// unit is a cell that is ready to be taken.
type unit struct {
	take deed
	cost int    // in fuel: how many instructions it has
	at   uint32 // the first of them
}

// site is where a deed stands.
type site struct {
	x      *Machine
	begins []uint32 // for each instruction the number of the cell that begins there
	last   uint32   // the cell's last instruction, which alone may meet a fault or wait
	next   uint32   // the number of the cell behind it
	to     uint32   // that of the cell at its target
}

// use makes the machine ready to use threaded code, which is its own from now on.
func (x *Machine) use(t api.Threaded) {
	x.threaded, x.cells, x.ones = t, x.units(t), x.units(alone(x.module.Image().Code))
}

// units gives the cells of threaded code, ready to be taken.
func (x *Machine) units(t api.Threaded) []unit {
	list := make([]unit, len(t.Cells))
	for i, c := range t.Cells {
		thing := c.Fused
		s := site{x: x, begins: t.Begins, last: thing.At + thing.Len - 1, next: uint32(i) + 1, to: c.To}
		list[i] = unit{take: s.deed(thing), cost: int(thing.Len), at: thing.At}
	}
	return list
}

// alone gives the threaded code of which each instruction is a cell, so that the numbers of its cells are indices.
func alone(code []api.Instr) api.Threaded {
	var t api.Threaded
	for i, in := range code {
		index, to := uint32(i), uint32(api.NoCell)
		info, _ := isa.Info(in.Op)
		if info.Kind == api.KindGoto || info.Kind == api.KindBranch {
			to = in.Arg
		}
		thing := api.Fused{At: index, Len: 1, Kind: api.FuseOne, Op: in.Op, A: in.Arg}
		t.Cells = append(t.Cells, api.Cell{Fused: thing, To: to})
		t.Begins = append(t.Begins, index)
	}
	return t
}

// deed gives what a thing does: what its last instruction does, with what those ahead of it come to.
func (s site) deed(thing api.Fused) deed {
	x := s.x
	switch thing.Kind {
	case api.FusePush:
		return s.push(known(thing.A))
	case api.FuseGoto:
		return goesTo(s.to)
	case api.FuseNone:
		return goesTo(s.next)
	case api.FuseOpConst:
		return s.binary(thing.Op, known(thing.A))
	case api.FuseBranchConst:
		return s.branch(thing.Op, known(thing.A))
	case api.FuseArgConst:
		return s.argument(thing.B, known(thing.A))
	case api.FuseCallConst:
		return s.call(known(thing.A))
	case api.FuseLoadConst:
		return s.load(thing.Op, known(thing.A))
	case api.FuseStoreConst:
		return s.store(thing.Op, known(thing.A))
	case api.FuseArgLocal:
		return s.argument(thing.B, x.place(thing.A))
	case api.FuseLoadLocal:
		return s.load(thing.Op, x.place(thing.A))
	case api.FuseOpLocal:
		return s.binary(thing.Op, x.loaded(thing.A))
	case api.FuseBranchLocal:
		return s.branch(thing.Op, x.loaded(thing.A))
	case api.FuseBump:
		return s.bump(thing)
	}
	return s.single(thing.Op, thing.A)
}

// single gives what an instruction does as it stands.
func (s site) single(op api.Op, arg uint32) deed {
	x := s.x
	switch op {
	case api.OpNop:
		return goesTo(s.next)
	case api.OpBreak:
		return s.stop()
	case api.OpEnter:
		return s.enter(arg)
	case api.OpLeave:
		return s.leave(arg)
	case api.OpCall:
		return s.call(x.pop)
	case api.OpGoto:
		return goesTo(s.to)
	case api.OpJump:
		return s.jump()
	case api.OpConst:
		return s.push(known(arg))
	case api.OpLocal:
		return s.push(x.place(arg))
	case api.OpPop:
		return s.drop()
	case api.OpDup:
		return s.double()
	case api.OpArg:
		return s.argument(arg, x.pop)
	case api.OpLoad1, api.OpLoad2, api.OpLoad4:
		return s.load(op, x.pop)
	case api.OpStore1, api.OpStore2, api.OpStore4:
		return s.store(op, x.pop)
	case api.OpCopy:
		return s.copy(arg)
	}
	return s.worked(op)
}

// worked gives what an operation does of which layer 6 tells what it makes of words.
func (s site) worked(op api.Op) deed {
	info, _ := isa.Info(op)
	switch {
	case info.Kind == api.KindBranch:
		return s.branch(op, s.x.pop)
	case info.Takes == 2:
		return s.binary(op, s.x.pop)
	}
	return s.unary(op)
}

package fuse

import (
	"playpen/api"
	"playpen/fold"
	"playpen/isa"
)

// shape says how far its row goes from the beginning of a stretch on: a thing that lacks only its At and its Kind. Its Len is 0 where the shape does not fit.
type shape func(stretch []api.Instr) api.Fused

// part is a place of a row: it takes what it wants from the instructions that are left, and lays into the thing what the shape names of them; false, if they are others.
type part func(left []api.Instr, thing api.Fused) (api.Fused, bool)

// look tells whether one instruction is as it is wanted, and lays into the thing what the shape names of it.
type look func(in api.Instr, thing api.Fused) (api.Fused, bool)

// shapes gives the shapes by their kinds, as they stand in the chapter's table; there is none of the kind 0.
func shapes() [api.FuseBump + 1]shape {
	constant, local, arg := constantInto(intoA), single(isLocal), single(isArg)
	load, store, load4, store4 := single(isLoad), single(isStore), single(only(api.OpLoad4)), single(only(api.OpStore4))
	binary, comparison := single(isBinary), single(isComparison)
	return [api.FuseBump + 1]shape{
		api.FuseOne:         row(single(isAny)),
		api.FusePush:        folded(api.PiecePush),
		api.FuseGoto:        folded(api.PieceGoto),
		api.FuseNone:        folded(api.PieceNone),
		api.FuseOpConst:     row(constant, binary),
		api.FuseBranchConst: row(constant, comparison),
		api.FuseArgConst:    row(constant, arg),
		api.FuseCallConst:   row(constant, single(only(api.OpCall))),
		api.FuseLoadConst:   row(constant, load),
		api.FuseStoreConst:  row(constant, store),
		api.FuseArgLocal:    row(local, arg),
		api.FuseLoadLocal:   row(local, load),
		api.FuseOpLocal:     row(local, load4, binary),
		api.FuseBranchLocal: row(local, load4, comparison),
		api.FuseBump:        row(local, single(isSameLocal), load4, constantInto(intoB), single(isHarmless), store4),
	}
}

// row gives the shape that is made of parts, one behind the other.
func row(parts ...part) shape {
	return func(stretch []api.Instr) api.Fused {
		var thing api.Fused
		for _, takes := range parts {
			more, is := takes(stretch[thing.Len:], thing)
			if !is {
				return api.Fused{}
			}
			thing = more
		}
		return thing
	}
}

// folded gives the shape of a whole piece of layer 21, of a kind that has two instructions or more.
func folded(kind api.PieceKind) shape {
	return func(stretch []api.Instr) api.Fused {
		// Beside an error stands the piece of no kind.
		piece, _ := fold.Longest(stretch, 0, uint32(len(stretch)))
		if piece.Kind != kind {
			return api.Fused{}
		}
		return api.Fused{Len: piece.Len, A: piece.Value}
	}
}

// constantInto gives the part of a constant, with where its value goes.
func constantInto(lay func(thing api.Fused, value uint32) api.Fused) part {
	return func(left []api.Instr, thing api.Fused) (api.Fused, bool) {
		length, value := constantOf(left)
		thing.Len += length
		return lay(thing, value), length > 0
	}
}

// constantOf gives the length and the value of the constant with which instructions begin; the length is 0, if there is none.
// It is enough to look at the longest one: what a shape wants behind its constant takes two words or is not known to layer 21, so that no row that is played by itself goes on over it.
func constantOf(left []api.Instr) (length, value uint32) {
	// Of no instructions fold answers the piece of no kind.
	piece, _ := fold.Longest(left, 0, uint32(min(len(left), api.MaxConst)))
	switch {
	case piece.Kind == api.PiecePush:
		return piece.Len, piece.Value
	case piece.Kind == api.PieceOne && left[0].Op == api.OpConst:
		return 1, left[0].Arg
	}
	return 0, 0
}

func intoA(thing api.Fused, value uint32) api.Fused {
	thing.A = value
	return thing
}

func intoB(thing api.Fused, value uint32) api.Fused {
	thing.B = value
	return thing
}

// single gives the part of one instruction that may be and that a look wants.
func single(wants look) part {
	return func(left []api.Instr, thing api.Fused) (api.Fused, bool) {
		if len(left) == 0 || isa.Check(left[0]) != api.OK {
			return thing, false
		}
		thing.Len++
		return wants(left[0], thing)
	}
}

// only wants an operation of which the shape names nothing.
func only(op api.Op) look {
	return func(in api.Instr, thing api.Fused) (api.Fused, bool) {
		return thing, in.Op == op
	}
}

func isAny(in api.Instr, thing api.Fused) (api.Fused, bool) {
	thing.Op, thing.A = in.Op, in.Arg
	return thing, true
}

func isLocal(in api.Instr, thing api.Fused) (api.Fused, bool) {
	thing.A = in.Arg
	return thing, in.Op == api.OpLocal
}

// isSameLocal wants a local with the operand of the one ahead.
func isSameLocal(in api.Instr, thing api.Fused) (api.Fused, bool) {
	return thing, in.Op == api.OpLocal && in.Arg == thing.A
}

func isArg(in api.Instr, thing api.Fused) (api.Fused, bool) {
	thing.B = in.Arg
	return thing, in.Op == api.OpArg
}

func isLoad(in api.Instr, thing api.Fused) (api.Fused, bool) {
	thing.Op = in.Op
	return thing, in.Op >= api.OpLoad1 && in.Op <= api.OpLoad4
}

func isStore(in api.Instr, thing api.Fused) (api.Fused, bool) {
	thing.Op = in.Op
	return thing, in.Op >= api.OpStore1 && in.Op <= api.OpStore4
}

func isComparison(in api.Instr, thing api.Fused) (api.Fused, bool) {
	thing.Op, thing.B = in.Op, in.Arg
	return thing, in.Op >= api.OpEq && in.Op <= api.OpGef
}

func isBinary(in api.Instr, thing api.Fused) (api.Fused, bool) {
	thing.Op = in.Op
	info, _ := isa.Info(in.Op)
	return thing, in.Op >= api.OpAdd && in.Op <= api.OpDivf && info.Takes == 2
}

// isHarmless wants a binary operation that meets no fault, since it is not the last of its row.
func isHarmless(in api.Instr, thing api.Fused) (api.Fused, bool) {
	switch in.Op {
	case api.OpDivi, api.OpDivu, api.OpModi, api.OpModu:
		return thing, false
	}
	return isBinary(in, thing)
}

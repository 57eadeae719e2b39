package alu

import (
	"playpen/api"
	"playpen/single"
)

// Holds tells whether a stands to b as a comparison says.
func Holds(op api.Op, a, b uint32) (bool, api.Errno) {
	switch op {
	case api.OpEq:
		return a == b, api.OK
	case api.OpNe:
		return a != b, api.OK
	case api.OpLti:
		return int32(a) < int32(b), api.OK
	case api.OpLei:
		return int32(a) <= int32(b), api.OK
	case api.OpGti:
		return int32(a) > int32(b), api.OK
	case api.OpGei:
		return int32(a) >= int32(b), api.OK
	case api.OpLtu:
		return a < b, api.OK
	case api.OpLeu:
		return a <= b, api.OK
	case api.OpGtu:
		return a > b, api.OK
	case api.OpGeu:
		return a >= b, api.OK
	case api.OpEqf:
		return stands(a, b, api.SideEven, api.SideEven), api.OK
	case api.OpNef:
		return !stands(a, b, api.SideEven, api.SideEven), api.OK
	case api.OpLtf:
		return stands(a, b, api.SideBelow, api.SideBelow), api.OK
	case api.OpLef:
		return stands(a, b, api.SideBelow, api.SideEven), api.OK
	case api.OpGtf:
		return stands(a, b, api.SideAbove, api.SideAbove), api.OK
	case api.OpGef:
		return stands(a, b, api.SideAbove, api.SideEven), api.OK
	}
	return false, api.ErrNotOp
}

// stands tells whether a and b, as binary32 numbers, stand to one another in one of two ways.
func stands(a, b uint32, one, other api.Side) bool {
	side := single.Stand(a, b)
	return side == one || side == other
}

// Swapped gives the comparison that says of b and a what this one says of a and b.
func Swapped(op api.Op) (api.Op, api.Errno) {
	switch op {
	case api.OpEq, api.OpNe, api.OpEqf, api.OpNef:
		return op, api.OK
	case api.OpLti:
		return api.OpGti, api.OK
	case api.OpLei:
		return api.OpGei, api.OK
	case api.OpGti:
		return api.OpLti, api.OK
	case api.OpGei:
		return api.OpLei, api.OK
	case api.OpLtu:
		return api.OpGtu, api.OK
	case api.OpLeu:
		return api.OpGeu, api.OK
	case api.OpGtu:
		return api.OpLtu, api.OK
	case api.OpGeu:
		return api.OpLeu, api.OK
	case api.OpLtf:
		return api.OpGtf, api.OK
	case api.OpLef:
		return api.OpGef, api.OK
	case api.OpGtf:
		return api.OpLtf, api.OK
	case api.OpGef:
		return api.OpLef, api.OK
	}
	return 0, api.ErrNotOp
}

// Opposite gives the comparison that holds just where this one does not, if there is one: of the floats' orders none does, since where an operand is no number each of them fails.
func Opposite(op api.Op) (api.Op, api.Errno) {
	switch op {
	case api.OpEq:
		return api.OpNe, api.OK
	case api.OpNe:
		return api.OpEq, api.OK
	case api.OpLti:
		return api.OpGei, api.OK
	case api.OpLei:
		return api.OpGti, api.OK
	case api.OpGti:
		return api.OpLei, api.OK
	case api.OpGei:
		return api.OpLti, api.OK
	case api.OpLtu:
		return api.OpGeu, api.OK
	case api.OpLeu:
		return api.OpGtu, api.OK
	case api.OpGtu:
		return api.OpLeu, api.OK
	case api.OpGeu:
		return api.OpLtu, api.OK
	case api.OpEqf:
		return api.OpNef, api.OK
	case api.OpNef:
		return api.OpEqf, api.OK
	case api.OpLtf, api.OpLef, api.OpGtf, api.OpGef:
		return 0, api.ErrNone
	}
	return 0, api.ErrNotOp
}

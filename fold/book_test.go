package fold_test

import (
	"slices"
	"testing"

	"playpen/alu"
	"playpen/api"
	"playpen/flow"
)

// This file says by hand what the chapter says: each row is played anew, whatever is known of shorter ones.

// unaries, binaries, comparisons and others are the operations of the tables of chapters 6 and 7, the others being those that are not known.
func unaries() []api.Op {
	return []api.Op{api.OpSex8, api.OpSex16, api.OpNeg, api.OpNot, api.OpNegf, api.OpCvif, api.OpCvfi}
}

func binaries() []api.Op {
	return []api.Op{
		api.OpAdd, api.OpSub, api.OpMul, api.OpDivi, api.OpDivu, api.OpModi, api.OpModu, api.OpAnd, api.OpOr, api.OpXor,
		api.OpShl, api.OpShri, api.OpShru, api.OpAddf, api.OpSubf, api.OpMulf, api.OpDivf,
	}
}

func comparisons() []api.Op {
	return []api.Op{
		api.OpEq, api.OpNe, api.OpLti, api.OpLei, api.OpGti, api.OpGei, api.OpLtu, api.OpLeu, api.OpGtu, api.OpGeu,
		api.OpEqf, api.OpNef, api.OpLtf, api.OpLef, api.OpGtf, api.OpGef,
	}
}

func others() []api.Op {
	return []api.Op{
		api.OpBreak, api.OpEnter, api.OpLeave, api.OpCall, api.OpGoto, api.OpJump, api.OpLocal, api.OpArg,
		api.OpLoad1, api.OpLoad2, api.OpLoad4, api.OpStore1, api.OpStore2, api.OpStore4, api.OpCopy,
	}
}

// mostBy gives the greatest operand of an operation.
func mostBy(op api.Op) uint32 {
	switch op {
	case api.OpEnter, api.OpLeave:
		return 65535
	case api.OpConst, api.OpLocal:
		return 4294967295
	case api.OpArg:
		return 14
	case api.OpCopy:
		return 256
	}
	if op == api.OpGoto || slices.Contains(comparisons(), op) {
		return 16383
	}
	return 0
}

// mayBe gives the error of an instruction that may not be.
func mayBe(one api.Instr) api.Errno {
	if one.Op == 0 || one.Op > 59 {
		return api.ErrOp
	}
	if one.Arg > mostBy(one.Op) {
		return api.ErrOperand
	}
	return api.OK
}

// played is what came of a row: its words, whether it ended by a comparison, and whether that held.
type played struct {
	words []uint32
	ended bool
	held  bool
}

// take takes so many words, the one that was put on first being the first; false, if they are not there.
func (p *played) take(count int) ([]uint32, bool) {
	rest := len(p.words) - count
	if rest < 0 {
		return nil, false
	}
	words := slices.Clone(p.words[rest:])
	p.words = p.words[:rest]
	return words, true
}

// next plays one instruction; false, if the row fails.
func (p *played) next(one api.Instr) bool {
	if mayBe(one) != api.OK {
		return false
	}
	switch {
	case one.Op == api.OpNop:
	case one.Op == api.OpConst:
		p.words = append(p.words, one.Arg)
	case one.Op == api.OpPop:
		_, is := p.take(1)
		return is
	case one.Op == api.OpDup:
		if len(p.words) == 0 {
			return false
		}
		p.words = append(p.words, p.words[len(p.words)-1])
	case slices.Contains(unaries(), one.Op):
		words, is := p.take(1)
		if !is {
			return false
		}
		word, err := alu.Unary(one.Op, words[0])
		p.words = append(p.words, word)
		return err == api.OK
	case slices.Contains(binaries(), one.Op):
		words, is := p.take(2)
		if !is {
			return false
		}
		word, err := alu.Binary(one.Op, words[0], words[1])
		p.words = append(p.words, word)
		return err == api.OK
	case slices.Contains(comparisons(), one.Op):
		words, is := p.take(2)
		if !is {
			return false
		}
		p.ended = true
		p.held, _ = alu.Holds(one.Op, words[0], words[1])
	default:
		return false
	}
	return len(p.words) <= 64
}

// closedBy tells whether a row is closed, and what it comes to.
func closedBy(row []api.Instr) (api.PieceKind, uint32, bool) {
	var p played
	for i, one := range row {
		if !p.next(one) || p.ended && i != len(row)-1 {
			return 0, 0, false
		}
	}
	switch {
	case len(p.words) == 1 && !p.ended:
		return api.PiecePush, p.words[0], true
	case len(p.words) == 0 && !(p.ended && p.held):
		return api.PieceNone, 0, true
	case len(p.words) == 0:
		return api.PieceGoto, row[len(row)-1].Arg, true
	}
	return 0, 0, false
}

// longestBy gives what Longest answers: of all rows, from the longest on, the first that is closed.
func longestBy(code []api.Instr, at, end uint32) (api.Piece, api.Errno) {
	if at >= end || int64(end) > int64(len(code)) {
		return api.Piece{}, api.ErrArg
	}
	if err := mayBe(code[at]); err != api.OK {
		return api.Piece{}, err
	}
	for to := end; to >= at+2; to-- {
		if kind, value, is := closedBy(code[at:to]); is {
			return piece(at, to-at, kind, value), api.OK
		}
	}
	return one(at), api.OK
}

// piecesBy gives what Pieces answers, by the blocks of chapter 14.
func piecesBy(t testing.TB, im api.Image) []api.Piece {
	t.Helper()
	blocks, _, err := flow.Blocks(im.Code, im.Jumps)
	if err != api.OK {
		t.Fatalf("Blocks(%v): %d", short(im.Code), err)
	}
	var list []api.Piece
	for _, block := range blocks {
		for at := block.Begin; at < block.End; {
			next := one(at)
			if block.Depth >= 0 {
				next, _ = longestBy(im.Code, at, block.End)
			}
			list = append(list, next)
			at += next.Len
		}
	}
	return list
}

package fold

import (
	"playpen/alu"
	"playpen/api"
	"playpen/isa"
)

// row is a row of instructions that is played by itself: the words that it has put on so far, in the place of the operand stack.
type row struct {
	words [api.MaxOps]uint32
	count int
}

// longest plays a stretch from its first instruction on, as far as it goes, and gives the longest closed row of it as a piece that begins at an index.
func longest(stretch []api.Instr, at uint32) api.Piece {
	var r row
	closed := one(at)
	for i, in := range stretch {
		info, _ := isa.Info(in.Op)
		if isa.Check(in) != api.OK || !r.bears(info) {
			goto end
		}
		length := uint32(i) + 1
		if info.Kind == api.KindBranch {
			if r.count == info.Takes {
				closed = r.compared(in, at, length)
			}
			goto end
		}
		if !r.plays(in, info.Takes) {
			goto end
		}
		if length > 1 && r.count <= 1 {
			closed = r.left(at, length)
		}
	}
end:
	return closed
}

// bears tells whether the words that an operation takes are there, and places for those that it gives.
func (r *row) bears(info api.OpInfo) bool {
	return r.count >= info.Takes && r.count-info.Takes+info.Gives <= len(r.words)
}

// plays does what an instruction does that is no comparison and that the row bears; false, if the row fails there.
func (r *row) plays(in api.Instr, takes int) bool {
	switch in.Op {
	case api.OpNop:
	case api.OpConst:
		r.push(in.Arg)
	case api.OpPop:
		r.pop()
	case api.OpDup:
		word := r.pop()
		r.push(word)
		r.push(word)
	default:
		return r.works(in.Op, takes)
	}
	return true
}

// works puts on what layer 6 makes of the words that an operation takes; false, if it makes nothing of them, or does not know the operation.
func (r *row) works(op api.Op, takes int) bool {
	word, err := uint32(0), api.ErrNotOp
	switch takes {
	case 1:
		word, err = alu.Unary(op, r.pop())
	case 2:
		a, b := r.popTwo()
		word, err = alu.Binary(op, a, b)
	}
	if err != api.OK {
		return false
	}
	r.push(word)
	return true
}

// compared gives the piece of a row that ends by a comparison of the two words that are there.
func (r *row) compared(in api.Instr, at, length uint32) api.Piece {
	a, b := r.popTwo()
	if holds, _ := alu.Holds(in.Op, a, b); holds {
		return api.Piece{At: at, Len: length, Kind: api.PieceGoto, Value: in.Arg}
	}
	return r.left(at, length)
}

// left gives the piece of a row that leaves one word, or none.
func (r *row) left(at, length uint32) api.Piece {
	if r.count == 0 {
		return api.Piece{At: at, Len: length, Kind: api.PieceNone}
	}
	return api.Piece{At: at, Len: length, Kind: api.PiecePush, Value: r.words[0]}
}

// push puts a word on; the row bears it.
func (r *row) push(word uint32) {
	r.words[r.count] = word
	r.count++
}

// pop takes the top word; the row has one.
func (r *row) pop() uint32 {
	r.count--
	return r.words[r.count]
}

// popTwo takes two words: b stood on top of a.
func (r *row) popTwo() (a, b uint32) {
	b = r.pop()
	a = r.pop()
	return a, b
}

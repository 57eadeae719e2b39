package fuse_test

import (
	"slices"
	"strings"

	"playpen/api"
	"playpen/fold"
	"playpen/isa"
)

// This file says by hand what the chapter says: a shape's words are held against every stretch and every length of a constant.

// binaries, comparisons, loads and stores are the operations of the chapter's words.
func binaries() []api.Op {
	return []api.Op{
		api.OpAdd, api.OpSub, api.OpMul, api.OpDivi, api.OpDivu, api.OpModi, api.OpModu, api.OpAnd, api.OpOr, api.OpXor,
		api.OpShl, api.OpShri, api.OpShru, api.OpAddf, api.OpSubf, api.OpMulf, api.OpDivf,
	}
}

func divisions() []api.Op { return []api.Op{api.OpDivi, api.OpDivu, api.OpModi, api.OpModu} }

func comparisons() []api.Op {
	return []api.Op{
		api.OpEq, api.OpNe, api.OpLti, api.OpLei, api.OpGti, api.OpGei, api.OpLtu, api.OpLeu, api.OpGtu, api.OpGeu,
		api.OpEqf, api.OpNef, api.OpLtf, api.OpLef, api.OpGtf, api.OpGef,
	}
}

func loads() []api.Op { return []api.Op{api.OpLoad1, api.OpLoad2, api.OpLoad4} }

func stores() []api.Op { return []api.Op{api.OpStore1, api.OpStore2, api.OpStore4} }

func unaries() []api.Op {
	return []api.Op{api.OpSex8, api.OpSex16, api.OpNeg, api.OpNot, api.OpNegf, api.OpCvif, api.OpCvfi}
}

// mostBy gives the greatest operand of an operation.
func mostBy(op api.Op) uint32 {
	switch op {
	case api.OpEnter, api.OpLeave:
		return 65535
	case api.OpConst, api.OpLocal:
		return 4294967295
	case api.OpArg:
		return 14
	case api.OpCopy:
		return 256
	}
	if op == api.OpGoto || slices.Contains(comparisons(), op) {
		return 16383
	}
	return 0
}

// mayBe gives the error of an instruction that may not be.
func mayBe(one api.Instr) api.Errno {
	if one.Op == 0 || one.Op > 59 {
		return api.ErrOp
	}
	if one.Arg > mostBy(one.Op) {
		return api.ErrOperand
	}
	return api.OK
}

// madeOf gives the column 'made of' of a shape, where it is a list of words.
func madeOf(k api.FuseKind) []string {
	return strings.Fields([]string{
		api.FuseOpConst:     "K binary",
		api.FuseBranchConst: "K comparison",
		api.FuseArgConst:    "K arg",
		api.FuseCallConst:   "K call",
		api.FuseLoadConst:   "K load",
		api.FuseStoreConst:  "K store",
		api.FuseArgLocal:    "local arg",
		api.FuseLoadLocal:   "local load",
		api.FuseOpLocal:     "local load4 binary",
		api.FuseBranchLocal: "local load4 comparison",
		api.FuseBump:        "local local load4 K binary store4",
	}[k])
}

// isWord tells whether an instruction is one of a word in small letters.
func isWord(one api.Instr, word string) bool {
	switch word {
	case "binary":
		return slices.Contains(binaries(), one.Op)
	case "comparison":
		return slices.Contains(comparisons(), one.Op)
	case "load":
		return slices.Contains(loads(), one.Op)
	case "store":
		return slices.Contains(stores(), one.Op)
	}
	op, is := isa.ByWord(word)
	return is && one.Op == op
}

// constantBy gives the value of a stretch that is a constant.
func constantBy(stretch []api.Instr) (uint32, bool) {
	count := uint32(len(stretch))
	if count == 1 && stretch[0].Op == api.OpConst {
		return stretch[0].Arg, true
	}
	if count < 2 || count > 16 {
		return 0, false
	}
	piece, err := fold.Longest(stretch, 0, count)
	return piece.Value, err == api.OK && piece.Kind == api.PiecePush && piece.Len == count
}

// words gives the parts of a stretch by the words of a list, one instruction each but for K, which has what is left over.
func words(stretch []api.Instr, list []string) (parts [][]api.Instr, is bool) {
	spare := len(stretch) - len(list)
	if spare < 0 || spare > 0 && !slices.Contains(list, "K") {
		return nil, false
	}
	for _, word := range list {
		count := 1
		if word == "K" {
			count = 1 + spare
		} else if !isWord(stretch[0], word) {
			return nil, false
		}
		parts = append(parts, stretch[:count])
		stretch = stretch[count:]
	}
	for i, word := range list {
		if word != "K" {
			continue
		}
		if _, is := constantBy(parts[i]); !is {
			return nil, false
		}
	}
	return parts, true
}

// madeBy tells whether a stretch is just as a shape other than the first four is made, and gives its Op, A and B.
func madeBy(stretch []api.Instr, k api.FuseKind) (op api.Op, a, b uint32, is bool) {
	parts, is := words(stretch, madeOf(k))
	if !is || slices.ContainsFunc(stretch, func(one api.Instr) bool { return mayBe(one) != api.OK }) {
		return 0, 0, 0, false
	}
	first, last := parts[0], parts[len(parts)-1][0]
	value, _ := constantBy(first)
	switch k {
	case api.FuseOpConst, api.FuseLoadConst, api.FuseStoreConst:
		return last.Op, value, 0, true
	case api.FuseBranchConst:
		return last.Op, value, last.Arg, true
	case api.FuseArgConst:
		return 0, value, last.Arg, true
	case api.FuseCallConst:
		return 0, value, 0, true
	case api.FuseArgLocal:
		return 0, first[0].Arg, last.Arg, true
	case api.FuseLoadLocal, api.FuseOpLocal:
		return last.Op, first[0].Arg, 0, true
	case api.FuseBranchLocal:
		return last.Op, first[0].Arg, last.Arg, true
	}
	value, _ = constantBy(parts[3])
	op = parts[4][0].Op
	if first[0].Arg != parts[1][0].Arg || slices.Contains(divisions(), op) {
		return 0, 0, 0, false
	}
	return op, first[0].Arg, value, true
}

// fitsBy gives what Fits answers.
func fitsBy(code []api.Instr, at, end uint32, k api.FuseKind) (api.Fused, bool) {
	if at >= end || int64(end) > int64(len(code)) || k == 0 || k > 15 {
		return api.Fused{}, false
	}
	switch k {
	case api.FuseOne:
		if mayBe(code[at]) != api.OK {
			return api.Fused{}, false
		}
		return alone(at, code[at]), true
	case api.FusePush, api.FuseGoto, api.FuseNone:
		piece, err := fold.Longest(code, at, end)
		kind := map[api.FuseKind]api.PieceKind{api.FusePush: api.PiecePush, api.FuseGoto: api.PieceGoto, api.FuseNone: api.PieceNone}[k]
		if err != api.OK || piece.Kind != kind || piece.Len < 2 {
			return api.Fused{}, false
		}
		return thing(at, piece.Len, k, 0, piece.Value, 0), true
	}
	for to := end; to > at; to-- {
		// No shape has more than five instructions beside its constant.
		if to-at > 16+5 {
			continue
		}
		if op, a, b, is := madeBy(code[at:to], k); is {
			return thing(at, to-at, k, op, a, b), true
		}
	}
	return api.Fused{}, false
}

// longestBy gives what Longest answers.
func longestBy(code []api.Instr, at, end uint32) (api.Fused, api.Errno) {
	if at >= end || int64(end) > int64(len(code)) {
		return api.Fused{}, api.ErrArg
	}
	if err := mayBe(code[at]); err != api.OK {
		return api.Fused{}, err
	}
	var best api.Fused
	for _, k := range everyKind() {
		if next, is := fitsBy(code, at, end, k); is && next.Len > best.Len {
			best = next
		}
	}
	return best, api.OK
}

// rowBy gives what Row goes through.
func rowBy(code []api.Instr, at, end uint32) []api.Fused {
	var list []api.Fused
	for at < end {
		next, err := longestBy(code, at, end)
		if err != api.OK {
			break
		}
		list = append(list, next)
		at += next.Len
	}
	return list
}

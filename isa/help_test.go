package isa_test

import (
	"math/big"
	"slices"
	"strconv"
	"strings"
	"testing"

	"playpen/api"
	"playpen/isa"
)

// chapter is the table as the document has it.
const chapter = `
| nop | 0 | 0 | 0 | 0 | KindPlain |
| break | 0 | 0 | 0 | 0 | KindStop |
| enter | 2 | 65535 | 0 | 0 | KindEnter |
| leave | 2 | 65535 | 1 | 0 | KindLeave |
| call | 0 | 0 | 1 | 1 | KindCall |
| goto | 2 | 16383 | 0 | 0 | KindGoto |
| jump | 0 | 0 | 1 | 0 | KindJump |
| const, local | 4 | 4294967295 | 0 | 1 | KindPlain |
| pop | 0 | 0 | 1 | 0 | KindPlain |
| dup | 0 | 0 | 1 | 2 | KindPlain |
| arg | 1 | 14 | 1 | 0 | KindPlain |
| eq, ne, lti, lei, gti, gei, ltu, leu, gtu, geu, eqf, nef, ltf, lef, gtf, gef | 2 | 16383 | 2 | 0 | KindBranch |
| load1, load2, load4 | 0 | 0 | 1 | 1 | KindPlain |
| store1, store2, store4 | 0 | 0 | 2 | 0 | KindPlain |
| copy | 2 | 256 | 2 | 0 | KindPlain |
| sex8, sex16, neg, not, negf, cvif, cvfi | 0 | 0 | 1 | 1 | KindPlain |
| add, sub, mul, divi, divu, modi, modu, and, or, xor, shl, shri, shru, addf, subf, mulf, divf | 0 | 0 | 2 | 1 | KindPlain |
`

// numbers gives the operation of each word: the constant of package api whose name it is.
func numbers() map[string]api.Op {
	return map[string]api.Op{
		"nop": api.OpNop, "break": api.OpBreak, "enter": api.OpEnter, "leave": api.OpLeave, "call": api.OpCall,
		"goto": api.OpGoto, "jump": api.OpJump, "const": api.OpConst, "local": api.OpLocal,
		"pop": api.OpPop, "dup": api.OpDup, "arg": api.OpArg,
		"eq": api.OpEq, "ne": api.OpNe,
		"lti": api.OpLti, "lei": api.OpLei, "gti": api.OpGti, "gei": api.OpGei,
		"ltu": api.OpLtu, "leu": api.OpLeu, "gtu": api.OpGtu, "geu": api.OpGeu,
		"eqf": api.OpEqf, "nef": api.OpNef, "ltf": api.OpLtf, "lef": api.OpLef, "gtf": api.OpGtf, "gef": api.OpGef,
		"load1": api.OpLoad1, "load2": api.OpLoad2, "load4": api.OpLoad4,
		"store1": api.OpStore1, "store2": api.OpStore2, "store4": api.OpStore4, "copy": api.OpCopy,
		"sex8": api.OpSex8, "sex16": api.OpSex16, "neg": api.OpNeg, "not": api.OpNot,
		"negf": api.OpNegf, "cvif": api.OpCvif, "cvfi": api.OpCvfi,
		"add": api.OpAdd, "sub": api.OpSub, "mul": api.OpMul,
		"divi": api.OpDivi, "divu": api.OpDivu, "modi": api.OpModi, "modu": api.OpModu,
		"and": api.OpAnd, "or": api.OpOr, "xor": api.OpXor,
		"shl": api.OpShl, "shri": api.OpShri, "shru": api.OpShru,
		"addf": api.OpAddf, "subf": api.OpSubf, "mulf": api.OpMulf, "divf": api.OpDivf,
	}
}

func kinds() map[string]api.OpKind {
	return map[string]api.OpKind{
		"KindPlain": api.KindPlain, "KindBranch": api.KindBranch, "KindGoto": api.KindGoto, "KindJump": api.KindJump,
		"KindCall": api.KindCall, "KindEnter": api.KindEnter, "KindLeave": api.KindLeave, "KindStop": api.KindStop,
	}
}

func figure(s string) int {
	n, err := strconv.ParseInt(s, 10, 64)
	if err != nil {
		panic(err)
	}
	return int(n)
}

// rows reads the chapter's table.
func rows() map[api.Op]api.OpInfo {
	table := map[api.Op]api.OpInfo{}
	for line := range strings.Lines(chapter) {
		if line == "\n" {
			continue
		}
		cells := strings.Split(strings.Trim(line, "| \n"), " | ")
		most, err := strconv.ParseUint(cells[2], 10, 32)
		if err != nil {
			panic(err)
		}
		for _, word := range strings.Split(cells[0], ", ") {
			table[numbers()[word]] = api.OpInfo{
				Word: word, Width: figure(cells[1]), Most: uint32(most),
				Takes: figure(cells[3]), Gives: figure(cells[4]), Kind: kinds()[cells[5]],
			}
		}
	}
	return table
}

// checkBy says whether an instruction may be, by the words of the document.
func checkBy(table map[api.Op]api.OpInfo, in api.Instr) api.Errno {
	info, is := table[in.Op]
	switch {
	case !is:
		return api.ErrOp
	case in.Arg > info.Most:
		return api.ErrOperand
	}
	return api.OK
}

// coded is an answer of Encode.
type coded struct {
	bytes string
	index int
	err   api.Errno
}

func encoded(code []api.Instr) coded {
	b, index, err := isa.Encode(code)
	return coded{string(b), index, err}
}

// encodeBy gives what the document says of Encode: an operand's i-th byte is the operand divided by 256^i, modulo 256.
func encodeBy(table map[api.Op]api.OpInfo, code []api.Instr) coded {
	if len(code) > 16384 {
		return coded{"", 16384, api.ErrInstrs}
	}
	var b []byte
	for i, in := range code {
		if err := checkBy(table, in); err != api.OK {
			return coded{"", i, err}
		}
		b = append(b, byte(in.Op))
		rest := new(big.Int).SetUint64(uint64(in.Arg))
		for range table[in.Op].Width {
			low := new(big.Int)
			rest.DivMod(rest, big.NewInt(256), low)
			b = append(b, byte(low.Uint64()))
		}
	}
	return coded{string(b), 0, api.OK}
}

// spot is an instruction with the place at which it stands.
type spot struct {
	at int
	in api.Instr
}

// spotsBy gives the instructions that the document says Decode reads, up to the end or the first fault, and that fault with its place.
func spotsBy(table map[api.Op]api.OpInfo, b []byte) (list []spot, at int, err api.Errno) {
	for at < len(b) {
		info, is := table[api.Op(b[at])]
		left := len(b) - at - 1
		if len(list) == 16384 {
			return list, at, api.ErrInstrs
		}
		if !is {
			return list, at, api.ErrOp
		}
		if left < info.Width {
			return list, at, api.ErrCut
		}
		arg := uint64(0)
		for i := info.Width; i >= 1; i-- {
			arg = arg*256 + uint64(b[at+i])
		}
		if arg > uint64(info.Most) {
			return list, at, api.ErrOperand
		}
		list = append(list, spot{at, api.Instr{Op: api.Op(b[at]), Arg: uint32(arg)}})
		at += 1 + info.Width
	}
	return list, 0, api.OK
}

// codeOf gives the instructions alone.
func codeOf(list []spot) []api.Instr {
	var code []api.Instr
	for _, s := range list {
		code = append(code, s.in)
	}
	return code
}

// walked goes through a walk to its end.
func walked(b []byte) []spot {
	var list []spot
	for at, in := range isa.Walk(b) {
		list = append(list, spot{at, in})
	}
	return list
}

func checkEncode(t *testing.T, table map[api.Op]api.OpInfo, code []api.Instr) {
	t.Helper()
	want := encodeBy(table, code)
	if got := encoded(code); got != want {
		t.Fatalf("Encode(%v): %x, %d, %d, want %x, %d, %d", brief(code), got.bytes, got.index, got.err, want.bytes, want.index, want.err)
	}
}

func checkDecode(t *testing.T, table map[api.Op]api.OpInfo, b []byte) {
	t.Helper()
	list, at, err := spotsBy(table, b)
	want := codeOf(list)
	if err != api.OK {
		want = nil
	}
	code, gotAt, gotErr := isa.Decode(b)
	if !slices.Equal(code, want) || gotAt != at || gotErr != err {
		t.Fatalf("Decode(%x): %v, %d, %d, want %v, %d, %d", brief(b), brief(code), gotAt, gotErr, brief(want), at, err)
	}
	if got := walked(b); !slices.Equal(got, list) {
		t.Fatalf("Walk(%x): %v, want %v", brief(b), brief(got), brief(list))
	}
}

// brief keeps what a failing test tells short.
func brief[T any](list []T) []T { return list[:min(len(list), 40)] }

// everyOp gives every number that an operation's type holds, those that are none too.
func everyOp() []api.Op {
	var list []api.Op
	for n := range 256 {
		list = append(list, api.Op(n))
	}
	return list
}

// edgeArgs gives operands at the edges of all widths and of all greatest operands.
func edgeArgs() []uint32 {
	return []uint32{
		0, 1, 2, 13, 14, 15, 127, 128, 254, 255, 256, 257, 258, 511, 512, 4095, 4096, 16382, 16383, 16384, 32767, 32768,
		65534, 65535, 65536, 65537, 0xFFFFFF, 0x1000000, 0x01020304, 0x7FFFFFFF, 0x80000000, 0xFFFFFFFE, 0xFFFFFFFF,
	}
}

// scattered gives so many words, always the same ones, from all over.
func scattered(count int) []uint32 {
	list := make([]uint32, count)
	state := uint64(0x9E3779B97F4A7C15)
	for i := range list {
		state ^= state << 13
		state ^= state >> 7
		state ^= state << 17
		list[i] = uint32(state * 0x2545F4914F6CDD1D >> 32)
	}
	return list
}

// wellFormed gives code of instructions that may be, from all over the table.
func wellFormed(table map[api.Op]api.OpInfo, words []uint32) []api.Instr {
	var code []api.Instr
	for _, w := range words {
		op := api.Op(1 + w%59)
		arg := uint64(w>>3) * 2654435761 % (uint64(table[op].Most) + 1)
		if w%7 == 0 {
			arg = uint64(table[op].Most)
		}
		code = append(code, api.Instr{Op: op, Arg: uint32(arg)})
	}
	return code
}

// nops gives code of so many instructions that all have one byte.
func nops(count int) []api.Instr {
	return slices.Repeat([]api.Instr{{Op: api.OpNop}}, count)
}

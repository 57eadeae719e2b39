package alu_test

import (
	"math/big"
	"testing"

	"playpen/alu"
	"playpen/api"
)

// P6.1: the document's examples, and each operation's edges.
func TestUnaryRows(t *testing.T) {
	for _, c := range []struct {
		op      api.Op
		a, want uint32
	}{
		{api.OpSex8, 0x1FF, 0xFFFFFFFF}, {api.OpSex8, 0x7F, 0x7F}, {api.OpSex8, 0x80, 0xFFFFFF80}, {api.OpSex8, 0xFFFFFF00, 0},
		{api.OpSex16, 0x8000, 0xFFFF8000}, {api.OpSex16, 0x7FFF, 0x7FFF}, {api.OpSex16, 0xFFFF0000, 0}, {api.OpSex16, 0x80, 0x80},
		{api.OpNeg, 0x80000000, 0x80000000}, {api.OpNeg, 0, 0}, {api.OpNeg, 1, 0xFFFFFFFF},
		{api.OpNot, 0, 0xFFFFFFFF}, {api.OpNot, 0x80000001, 0x7FFFFFFE},
		{api.OpNegf, 0, 0x80000000}, {api.OpNegf, 0x3F800000, 0xBF800000}, {api.OpNegf, 0xFFFFFFFF, 0x7FFFFFFF},
		{api.OpCvif, 0xFFFFFFFF, 0xBF800000}, {api.OpCvif, 0, 0}, {api.OpCvif, 0x7FFFFFFF, 0x4F000000}, {api.OpCvif, 0x80000000, 0xCF000000}, {api.OpCvif, 16777217, 0x4B800000},
		{api.OpCvfi, 0x7FC00000, 0}, {api.OpCvfi, 0xC0600000, 0xFFFFFFFD}, {api.OpCvfi, 0x4F000000, 0x7FFFFFFF}, {api.OpCvfi, 0xFF800000, 0x80000000}, {api.OpCvfi, 0x80000000, 0},
	} {
		checkWord(t, "Unary", c.op, c.a, 0, answered(alu.Unary(c.op, c.a)), answer{c.want, api.OK})
	}
}

// P6.1: the first table at the edges and all over, and ErrNotOp of every other number.
func TestUnary(t *testing.T) {
	for _, op := range everyOp() {
		for _, a := range edgeWords() {
			checkWord(t, "Unary", op, a, 0, answered(alu.Unary(op, a)), unaryBy(op, a))
		}
	}
	for op, f := range unaryTable() {
		for _, a := range scattered(2000) {
			checkWord(t, "Unary", op, a, 0, answered(alu.Unary(op, a)), answer{f(a), api.OK})
		}
	}
}

// P6.1: every byte and every sixteen bits that are given a sign.
func TestUnaryEveryLowPart(t *testing.T) {
	for n := range uint32(1 << 16) {
		a := n | n*0x9E370000
		checkWord(t, "Unary", api.OpSex8, a, 0, answered(alu.Unary(api.OpSex8, a)), unaryBy(api.OpSex8, a))
		checkWord(t, "Unary", api.OpSex16, a, 0, answered(alu.Unary(api.OpSex16, a)), unaryBy(api.OpSex16, a))
	}
}

// P6.2: the document's examples, and each operation's edges.
func TestBinaryRows(t *testing.T) {
	for _, c := range []struct {
		op         api.Op
		a, b, want uint32
	}{
		{api.OpAdd, 0xFFFFFFFF, 1, 0}, {api.OpSub, 2, 5, 0xFFFFFFFD}, {api.OpMul, 0x80000000, 2, 0}, {api.OpMul, 0xFFFFFFFF, 3, 0xFFFFFFFD},
		{api.OpDivi, 0xFFFFFFF9, 2, 0xFFFFFFFD}, {api.OpModi, 0xFFFFFFF9, 2, 0xFFFFFFFF}, {api.OpDivi, 7, 0xFFFFFFFE, 0xFFFFFFFD}, {api.OpModi, 7, 0xFFFFFFFE, 1},
		{api.OpDivi, 0x80000000, 0xFFFFFFFF, 0x80000000}, {api.OpModi, 0x80000000, 0xFFFFFFFF, 0}, {api.OpDivi, 0, 0x80000000, 0}, {api.OpModi, 0xFFFFFFF8, 4, 0},
		{api.OpDivu, 0xFFFFFFF9, 2, 0x7FFFFFFC}, {api.OpModu, 0xFFFFFFF9, 2, 1}, {api.OpDivu, 0x80000000, 0xFFFFFFFF, 0}, {api.OpModu, 0x80000000, 0xFFFFFFFF, 0x80000000},
		{api.OpAnd, 0xFF00FF00, 0x0FF00FF0, 0x0F000F00}, {api.OpOr, 0xFF00FF00, 0x0FF00FF0, 0xFFF0FFF0}, {api.OpXor, 0xFF00FF00, 0x0FF00FF0, 0xF0F0F0F0},
		{api.OpShl, 1, 33, 2}, {api.OpShl, 1, 31, 0x80000000}, {api.OpShl, 5, 32, 5}, {api.OpShl, 1, 0xFFFFFFFF, 0x80000000},
		{api.OpShri, 0x80000000, 31, 0xFFFFFFFF}, {api.OpShri, 0xFFFFFFF9, 1, 0xFFFFFFFC}, {api.OpShri, 0x80000000, 64, 0x80000000}, {api.OpShri, 0x7FFFFFFF, 63, 0},
		{api.OpShru, 0x80000000, 31, 1}, {api.OpShru, 0xFFFFFFFF, 40, 0xFFFFFF}, {api.OpShru, 0xFFFFFFFF, 32, 0xFFFFFFFF},
		{api.OpAddf, 0x3DCCCCCD, 0x3E4CCCCD, 0x3E99999A}, {api.OpSubf, 0x3F800000, 0x3F800000, 0}, {api.OpMulf, 0x00000003, 0x3F000000, 0x00000002},
		{api.OpDivf, 0x3F800000, 0, 0x7F800000}, {api.OpDivf, 0x3F800000, 0x80000000, 0xFF800000}, {api.OpDivf, 0, 0, api.NaN}, {api.OpDivf, 0x3F800000, 0x40400000, 0x3EAAAAAB},
	} {
		checkWord(t, "Binary", c.op, c.a, c.b, answered(alu.Binary(c.op, c.a, c.b)), answer{c.want, api.OK})
	}
}

// P6.2: the second table, each edge with each edge.
func TestBinary(t *testing.T) {
	for op, f := range binaryTable() {
		for _, p := range pairs() {
			want := answer{0, api.ErrDivide}
			if !divides(op) || p[1] != 0 {
				want = answer{f(p[0], p[1]), api.OK}
			}
			checkWord(t, "Binary", op, p[0], p[1], answered(alu.Binary(op, p[0], p[1])), want)
		}
	}
}

// P6.2: every shift's count, with words whose every bit is seen.
func TestEveryShift(t *testing.T) {
	for b := range uint32(100) {
		for _, a := range []uint32{0x80000001, 0x7FFFFFFF, 0xA5C3F00F} {
			for _, op := range []api.Op{api.OpShl, api.OpShri, api.OpShru} {
				checkWord(t, "Binary", op, a, b, answered(alu.Binary(op, a, b)), binaryBy(op, a, b))
			}
		}
	}
}

// P6.2: ErrDivide of the four divisions by nought, whatever is divided, and of nothing else.
func TestDivisionByNought(t *testing.T) {
	for op := range binaryTable() {
		for _, a := range edgeWords() {
			word, err := alu.Binary(op, a, 0)
			if (err == api.ErrDivide) != divides(op) || divides(op) && word != 0 {
				t.Fatalf("Binary(%d, %08X, 0): %08X, %d", op, a, word, err)
			}
		}
	}
}

// P6.2: ErrNotOp of every other number, the right word a nought too.
func TestBinaryNotOp(t *testing.T) {
	for _, op := range everyOp() {
		if _, ok := binaryTable()[op]; ok {
			continue
		}
		for _, b := range edgeWords() {
			checkWord(t, "Binary", op, 7, b, answered(alu.Binary(op, 7, b)), answer{0, api.ErrNotOp})
		}
	}
}

// binary gives the answer of an operation that must not refuse.
func binary(t *testing.T, op api.Op, a, b uint32) uint32 {
	t.Helper()
	word, err := alu.Binary(op, a, b)
	if err != api.OK {
		t.Fatalf("Binary(%d, %08X, %08X): error %d", op, a, b, err)
	}
	return word
}

// P6.6: quotient and rest give the word back, and the rest's size is below the divisor's.
func TestQuotientAndRest(t *testing.T) {
	for _, p := range pairs() {
		a, b := p[0], p[1]
		if b == 0 {
			continue
		}
		if back := binary(t, api.OpDivi, a, b)*b + binary(t, api.OpModi, a, b); back != a {
			t.Fatalf("%08X over %08X with a sign: back as %08X", a, b, back)
		}
		if back := binary(t, api.OpDivu, a, b)*b + binary(t, api.OpModu, a, b); back != a {
			t.Fatalf("%08X over %08X without sign: back as %08X", a, b, back)
		}
		if size(signed(binary(t, api.OpModi, a, b))).Cmp(size(signed(b))) >= 0 || binary(t, api.OpModu, a, b) >= b {
			t.Fatalf("%08X over %08X: a rest too great", a, b)
		}
	}
}

func size(n *big.Int) *big.Int { return new(big.Int).Abs(n) }

// P6.6: a shift by b is one by b modulo 32; not is neg less 1.
func TestShiftsAndNot(t *testing.T) {
	for _, p := range pairs() {
		for _, op := range []api.Op{api.OpShl, api.OpShri, api.OpShru} {
			if binary(t, op, p[0], p[1]) != binary(t, op, p[0], p[1]%32) {
				t.Fatalf("shift %d of %08X by %08X", op, p[0], p[1])
			}
		}
		not, _ := alu.Unary(api.OpNot, p[0])
		neg, _ := alu.Unary(api.OpNeg, p[0])
		if not != neg-1 {
			t.Fatalf("not %08X is %08X, neg %08X", p[0], not, neg)
		}
	}
}

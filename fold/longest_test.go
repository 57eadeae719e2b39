package fold_test

import (
	"slices"
	"testing"

	"playpen/alu"
	"playpen/api"
	"playpen/fold"
)

// P21.1: a stretch that does not lie in the code is refused, whatever its first instruction is.
func TestStretchOutside(t *testing.T) {
	for _, code := range [][]api.Instr{examples(t), {in(0, 0), in(api.OpPop, 1), in(200, 9)}, {in(api.OpNop, 0)}, {}, nil} {
		count := uint32(len(code))
		for _, span := range [][2]uint32{
			{0, 0}, {0, count + 1}, {count, count}, {count, count + 1}, {count + 1, count}, {count + 1, count + 2}, {1, 0}, {count, 0},
			{0, 1<<32 - 1}, {1<<32 - 1, 0}, {1<<32 - 1, 1<<32 - 1}, {1 << 31, 1<<32 - 1}, {0, 1 << 31}, {1<<32 - 2, 1<<32 - 1},
		} {
			wantRefused(t, code, span[0], span[1], api.ErrArg)
		}
	}
}

// P21.1: the first instruction of a stretch must be one that may be, known or not; the others need not.
func TestFirstMayNotBe(t *testing.T) {
	for number := range 256 {
		op := api.Op(number)
		for _, arg := range []uint32{0, mostBy(op), mostBy(op) + 1, 1<<32 - 1} {
			first := in(op, arg)
			code := []api.Instr{in(api.OpNop, 0), first, in(api.OpNop, 0)}
			if err := mayBe(first); err != api.OK {
				wantRefused(t, code, 1, 2, err)
				wantRefused(t, code, 1, 3, err)
				wantLongest(t, code, 0, 3, one(0))
				continue
			}
			checkLongest(t, code, 1, 2)
			checkLongest(t, code, 1, 3)
			checkLongest(t, code, 0, 3)
		}
	}
}

// P21.1: a row fails at an instruction that may not be, wherever it stands.
func TestLaterMayNotBe(t *testing.T) {
	for _, bad := range []api.Instr{in(0, 0), in(60, 0), in(255, 7), in(api.OpNop, 1), in(api.OpPop, 1), in(api.OpDup, 1<<31), in(api.OpNeg, 5), in(api.OpAdd, 1)} {
		code := append(lines(t, "const 1, const 2, add"), bad, in(api.OpNop, 0))
		wantLongest(t, code, 0, 5, push(0, 3, 3))
		wantLongest(t, slices.Insert(lines(t, "const 1, const 2, add, nop"), 2, bad), 0, 5, one(0))
	}
	wantRow(t, "const 1, const 1, eq 16383", goes(0, 3, 16383))
	wantLongest(t, with(lines(t, "const 1, const 1, eq 0"), 2, in(api.OpEq, 16384)), 0, 3, one(0))
	wantLongest(t, with(lines(t, "const 1, const 1, ne 0"), 2, in(api.OpNe, 16384)), 0, 3, one(0))
}

// P21.1: a row fails at an instruction that is not known, as its first one and later, with enough words for it.
func TestNotKnown(t *testing.T) {
	for _, op := range others() {
		for _, arg := range []uint32{0, mostBy(op)} {
			bad := in(op, arg)
			wantLongest(t, []api.Instr{bad, in(api.OpNop, 0), in(api.OpNop, 0)}, 0, 3, one(0))
			wantLongest(t, []api.Instr{in(api.OpNop, 0), bad, in(api.OpNop, 0)}, 0, 3, one(0))
			wantLongest(t, append(lines(t, "nop, const 4"), bad, in(api.OpNop, 0)), 0, 4, push(0, 2, 4))
			wantLongest(t, append(lines(t, "const 4, const 4"), bad, in(api.OpNop, 0), in(api.OpPop, 0), in(api.OpPop, 0)), 0, 6, one(0))
		}
	}
}

// edges gives words of all kinds, as whole numbers and as floats.
func edges() []uint32 {
	return []uint32{
		0, 1, 2, 7, 31, 32, 33, 255, 0x8000, 0x7FFFFFFF, 0x80000000, 0x80000001, 0xFFFFFFFE, 0xFFFFFFFF,
		0x3F800000, 0xBF800000, 0x40490FDB, 0x7F800000, 0xFF800000, 0x7FC00000, 0xFFC00001, 0x7F800001, 0x00800000, 0x4F000000, 0xCF000000,
	}
}

// P21.1: what a unary operation makes of a word.
func TestUnaryRows(t *testing.T) {
	for _, op := range unaries() {
		for _, a := range edges() {
			word, err := alu.Unary(op, a)
			if err != api.OK {
				t.Fatalf("Unary(%d, %#x): %d", op, a, err)
			}
			wantLongest(t, []api.Instr{in(api.OpConst, a), in(op, 0)}, 0, 2, push(0, 2, word))
		}
	}
}

// P21.1: what a binary operation makes of two words, or that it makes nothing of them.
func TestBinaryRows(t *testing.T) {
	fails := 0
	for _, op := range binaries() {
		for _, a := range edges() {
			for _, b := range edges() {
				code := []api.Instr{in(api.OpConst, a), in(api.OpConst, b), in(op, 0)}
				word, err := alu.Binary(op, a, b)
				if err != api.OK {
					fails++
					wantLongest(t, code, 0, 3, one(0))
					continue
				}
				wantLongest(t, code, 0, 3, push(0, 3, word))
			}
		}
	}
	if fails != 4*len(edges()) {
		t.Errorf("%d rows fail", fails)
	}
	wantRow(t, "const 10, const 3, sub", push(0, 3, 7))
	wantRow(t, "const 1, const 4, shl", push(0, 3, 16))
	wantRow(t, "const 0x80000000, const -1, divi", push(0, 3, 0x80000000))
	wantRow(t, "const 0x3F800000, const 0, divf", push(0, 3, 0x7F800000))
}

// P21.1: a comparison that holds goes to its operand, one that does not comes to nothing.
func TestComparisonRows(t *testing.T) {
	seen := map[api.PieceKind]int{}
	for _, op := range comparisons() {
		for _, a := range edges() {
			for _, b := range edges() {
				want := none(0, 3)
				if holds, err := alu.Holds(op, a, b); holds {
					want = goes(0, 3, 77)
				} else if err != api.OK {
					t.Fatalf("Holds(%d, %#x, %#x): %d", op, a, b, err)
				}
				wantLongest(t, []api.Instr{in(api.OpConst, a), in(api.OpConst, b), in(op, 77), in(api.OpNop, 0)}, 0, 4, want)
				seen[want.Kind]++
			}
		}
	}
	if seen[api.PieceGoto] < 1000 || seen[api.PieceNone] < 1000 {
		t.Errorf("%v", seen)
	}
	wantRow(t, "const 1, const 2, lti 0", goes(0, 3, 0))
	wantRow(t, "const 2, const 1, lti 9", none(0, 3))
}

// P21.1: a comparison ends a row, whether it holds or not, and is closed only if no word is left.
func TestNothingBehindComparison(t *testing.T) {
	wantRow(t, "const 1, const 1, eq 5, nop, nop", goes(0, 3, 5))
	wantRow(t, "const 1, const 1, ne 5, nop, nop", none(0, 3))
	wantRow(t, "const 1, const 1, ne 5, const 3", none(0, 3))
	wantRow(t, "const 1, const 1, ne 5, const 3, pop", none(0, 3))
	wantRow(t, "const 1, const 1, ne 5, const 1, const 1, eq 9", none(0, 3))
	wantRow(t, "const 1, const 1, const 1, ne 5", one(0))
	wantRow(t, "const 1, const 1, const 1, eq 5", one(0))
	wantRow(t, "const 1, const 1, const 1, ne 5, pop", one(0))
	wantRow(t, "const 1, const 1, const 1, eq 5, pop, nop", one(0))
	wantRow(t, "const 1, nop, const 1, const 1, ne 5, neg", push(0, 2, 1))
	wantRow(t, "nop, nop, const 1, const 1, eq 5, nop", goes(0, 5, 5))
}

// P21.1: a row fails at an instruction for which there are too few words, though the machine may have them.
func TestWordsLacking(t *testing.T) {
	for _, op := range slices.Concat(unaries(), []api.Op{api.OpPop, api.OpDup}, binaries(), comparisons()) {
		wantLongest(t, []api.Instr{in(op, 0), in(api.OpNop, 0), in(api.OpNop, 0)}, 0, 3, one(0))
		wantLongest(t, []api.Instr{in(api.OpNop, 0), in(op, 0), in(api.OpNop, 0)}, 0, 3, one(0))
		wantLongest(t, append(lines(t, "const 1, pop"), in(op, 0), in(api.OpNop, 0)), 0, 4, none(0, 2))
	}
	for _, op := range append(binaries(), comparisons()...) {
		wantLongest(t, append(lines(t, "const 1"), in(op, 0), in(api.OpNop, 0)), 0, 3, one(0))
		wantLongest(t, append(lines(t, "const 1, nop"), in(op, 0), in(api.OpNop, 0)), 0, 4, push(0, 2, 1))
	}
}

// P21.1: what each of the instructions does that alu does not know.
func TestPlainRows(t *testing.T) {
	wantRow(t, "nop, nop", none(0, 2))
	wantRow(t, "nop, const 0", push(0, 2, 0))
	wantRow(t, "const 0xFFFFFFFF, nop", push(0, 2, 0xFFFFFFFF))
	wantRow(t, "const 5, pop", none(0, 2))
	wantRow(t, "const 5, dup", one(0))
	wantRow(t, "const 5, dup, add", push(0, 3, 10))
	wantRow(t, "const 5, const 6, pop", push(0, 3, 5))
	wantRow(t, "const 5, dup, pop, pop", none(0, 4))
	wantRow(t, "const 5, const 6, dup, sub, add", push(0, 5, 5))
	wantRow(t, "const 5, const 6", one(0))
	wantRow(t, "const 5", one(0))
	wantRow(t, "nop", one(0))
	wantRow(t, "pop", one(0))
}

// P21.1: of the closed rows the longest is told, what shorter ones came to forgotten.
func TestLongestOfMany(t *testing.T) {
	code := lines(t, "const 1, neg, pop, nop, const 2, const 3, add, const 4, mul, pop, const 9, const 8")
	for i, want := range []api.Piece{
		one(0), push(0, 2, 0xFFFFFFFF), none(0, 3), none(0, 4), push(0, 5, 2), push(0, 5, 2), push(0, 7, 5), push(0, 7, 5), push(0, 9, 20), none(0, 10), push(0, 11, 9), push(0, 11, 9),
	} {
		wantLongest(t, code, 0, uint32(i)+1, want)
	}
	// A row that grows far and closes again.
	wantRow(t, "const 1, "+times(20, "const 2")+times(20, "add")+"nop", push(0, 42, 41))
	wantRow(t, "nop, nop, "+times(20, "const 2")+times(17, "add")+"add", push(0, 3, 2))
}

// P21.1: MaxOps words may be there, one more may not, whether const or dup puts it on.
func TestMostWords(t *testing.T) {
	for _, up := range []string{"const 1", "dup"} {
		wantRow(t, "const 1, "+times(63, up)+times(62, "add")+"add", push(0, 127, 64))
		wantRow(t, "const 1, "+times(64, up)+times(63, "add")+"add", one(0))
		wantRow(t, "const 1, "+times(63, up)+times(63, "pop")+"pop", none(0, 128))
		wantRow(t, "const 1, "+times(64, up)+times(64, "pop")+"pop", one(0))
		wantRow(t, "const 1, neg, "+times(64, up)+times(64, "pop")+"nop", push(0, 2, 0xFFFFFFFF))
		// With all places taken, what takes as many words as it gives is still played.
		wantRow(t, "const 1, "+times(63, up)+"neg, nop, not, pop, "+up+", "+times(62, "add")+"add", push(0, 132, 64))
		wantRow(t, "const 1, "+times(63, up)+times(62, "add")+"ltu 7", goes(0, 127, 7))
		wantRow(t, "const 1, "+times(63, up)+times(62, "add")+"geu 7", none(0, 127))
	}
}

// P21.1: a stretch may be longer than the code of an image.
func TestLongRow(t *testing.T) {
	const count = 100000
	code := slices.Repeat([]api.Instr{in(api.OpNop, 0)}, count)
	if got, err := fold.Longest(code, 0, count); got != none(0, count) || err != api.OK {
		t.Errorf("%v, %d", got, err)
	}
	if got, err := fold.Longest(code, count-1, count); got != one(count-1) || err != api.OK {
		t.Errorf("%v, %d", got, err)
	}
	code[7] = in(api.OpConst, 9)
	if got, err := fold.Longest(code, 2, count-3); got != push(2, count-5, 9) || err != api.OK {
		t.Errorf("%v, %d", got, err)
	}
	code[count-5] = in(api.OpConst, 9)
	if got, err := fold.Longest(code, 2, count-3); got != push(2, count-7, 9) || err != api.OK {
		t.Errorf("%v, %d", got, err)
	}
}

// alphabet gives instructions of which all short rows are made.
func alphabet() []api.Instr {
	return []api.Instr{
		in(api.OpNop, 0), in(api.OpConst, 0), in(api.OpConst, 5), in(api.OpPop, 0), in(api.OpDup, 0), in(api.OpNot, 0), in(api.OpSub, 0),
		in(api.OpDivi, 0), in(api.OpEq, 3), in(api.OpLtu, 2), in(api.OpLoad4, 0), in(api.OpPop, 1),
	}
}

// P21.1: all rows of up to five instructions of the alphabet.
func TestAllShortRows(t *testing.T) {
	rows := [][]api.Instr{{}}
	for range 5 {
		var longer [][]api.Instr
		for _, row := range rows {
			for _, next := range alphabet() {
				longer = append(longer, append(slices.Clone(row), next))
			}
		}
		rows = longer
		for _, row := range rows {
			checkLongest(t, row, 0, uint32(len(row)))
		}
	}
}

// P21.1: scattered rows, from all of their places on and to all of them; each kind comes often.
func TestScatteredRows(t *testing.T) {
	seen := map[api.PieceKind]int{}
	lengths := map[bool]int{}
	for round := range uint64(1500) {
		d := newDice(round)
		code := d.someRow(30)
		for at := range uint32(len(code)) {
			for end := at; end <= uint32(len(code))+1; end++ {
				got := checkLongest(t, code, at, end)
				seen[got.Kind]++
				lengths[got.Len > 8]++
			}
		}
	}
	for kind := api.PieceOne; kind <= api.PieceNone; kind++ {
		if seen[kind] < 3000 {
			t.Errorf("kind %d was seen %d times", kind, seen[kind])
		}
	}
	if lengths[true] < 3000 {
		t.Errorf("%d rows are long", lengths[true])
	}
}

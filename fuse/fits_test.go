package fuse_test

import (
	"slices"
	"testing"

	"playpen/api"
	"playpen/fold"
	"playpen/fuse"
)

// edges gives words of all kinds, as whole numbers and as floats.
func edges() []uint32 {
	return []uint32{0, 1, 2, 31, 255, 0x7FFFFFFF, 0x80000000, 0xFFFFFFFE, 0xFFFFFFFF, 0x3F800000, 0x7F800000, 0x7FC00000}
}

// constants gives texts of constants, with their values.
func constants() map[string]uint32 {
	return map[string]uint32{
		"const 5":                     5,
		"const 0":                     0,
		"const 0xFFFFFFFF":            0xFFFFFFFF,
		"const 5, neg":                0xFFFFFFFB,
		"const 5, nop":                5,
		"nop, const 5":                5,
		"nop, nop, const 5, nop":      5,
		"const 2, const 3, sub":       0xFFFFFFFF,
		"const 7, dup, mul":           49,
		"const 7, pop, const 8":       8,
		"const 7, const 8, pop":       7,
		"const 9, const 2, divu":      4,
		"const 1, cvif":               0x3F800000,
		times(15, "nop") + "const 6":  6,
		"const 6, " + fifteen("not"):  0xFFFFFFF9,
		times(8, "const 1") + adds(7): 8,
	}
}

// fifteen gives so many of an instruction, without a comma at the end.
func fifteen(line string) string { return times(14, line) + line }

// adds gives so many additions, without a comma at the end.
func adds(count int) string { return times(count-1, "add") + "add" }

// inConstant gives code in which something follows a constant.
func inConstant(t testing.TB, constant string, next ...api.Instr) []api.Instr {
	t.Helper()
	return append(lines(t, constant), next...)
}

// P22.1: FuseOne fits each instruction that may be, and no other, however long the stretch is.
func TestFitsOne(t *testing.T) {
	for number := range 256 {
		op := api.Op(number)
		for _, arg := range []uint32{0, 1, mostBy(op), mostBy(op) + 1, 1<<32 - 1} {
			one := in(op, arg)
			code := []api.Instr{in(api.OpConst, 4), one, in(api.OpNop, 0)}
			for end := uint32(2); end <= 3; end++ {
				if mayBe(one) == api.OK {
					wantFits(t, code, 1, end, alone(1, one))
				} else {
					wantUnfit(t, code, 1, end, api.FuseOne)
				}
			}
		}
	}
}

// P22.1: each shape of a constant, with each operation and with constants of all kinds.
func TestFitsConstant(t *testing.T) {
	for constant, value := range constants() {
		for _, op := range binaries() {
			wantWhole(t, inConstant(t, constant, in(op, 0)), thing(0, 0, api.FuseOpConst, op, value, 0))
		}
		for _, op := range comparisons() {
			for _, to := range []uint32{0, 1, 16383} {
				wantWhole(t, inConstant(t, constant, in(op, to)), thing(0, 0, api.FuseBranchConst, op, value, to))
			}
		}
		for place := range uint32(15) {
			wantWhole(t, inConstant(t, constant, in(api.OpArg, place)), thing(0, 0, api.FuseArgConst, 0, value, place))
		}
		wantWhole(t, inConstant(t, constant, in(api.OpCall, 0)), thing(0, 0, api.FuseCallConst, 0, value, 0))
		for _, op := range loads() {
			wantWhole(t, inConstant(t, constant, in(op, 0)), thing(0, 0, api.FuseLoadConst, op, value, 0))
		}
		for _, op := range stores() {
			wantWhole(t, inConstant(t, constant, in(op, 0)), thing(0, 0, api.FuseStoreConst, op, value, 0))
		}
	}
}

// P22.1: each shape of a local, with each operation.
func TestFitsLocal(t *testing.T) {
	for _, a := range edges() {
		local, load4 := in(api.OpLocal, a), in(api.OpLoad4, 0)
		for place := range uint32(15) {
			wantWhole(t, []api.Instr{local, in(api.OpArg, place)}, thing(0, 0, api.FuseArgLocal, 0, a, place))
		}
		for _, op := range loads() {
			wantWhole(t, []api.Instr{local, in(op, 0)}, thing(0, 0, api.FuseLoadLocal, op, a, 0))
		}
		for _, op := range binaries() {
			wantWhole(t, []api.Instr{local, load4, in(op, 0)}, thing(0, 0, api.FuseOpLocal, op, a, 0))
		}
		for _, op := range comparisons() {
			for _, to := range []uint32{0, 1, 16383} {
				wantWhole(t, []api.Instr{local, load4, in(op, to)}, thing(0, 0, api.FuseBranchLocal, op, a, to))
			}
		}
	}
}

// bump gives the code of a local word that is worked with.
func bump(t testing.TB, first, second uint32, load api.Op, constant string, op, store api.Op) []api.Instr {
	t.Helper()
	return slices.Concat([]api.Instr{in(api.OpLocal, first), in(api.OpLocal, second), in(load, 0)}, lines(t, constant), []api.Instr{in(op, 0), in(store, 0)})
}

// P22.1: FuseBump with each operation but the divisions, and with constants of all kinds.
func TestFitsBump(t *testing.T) {
	for constant, value := range constants() {
		for _, op := range binaries() {
			code := bump(t, 8, 8, api.OpLoad4, constant, op, api.OpStore4)
			if slices.Contains(divisions(), op) {
				wantUnfit(t, code, 0, uint32(len(code)), api.FuseBump)
				wantLongest(t, code, 0, uint32(len(code)), alone(0, code[0]))
				continue
			}
			wantWhole(t, code, thing(0, 0, api.FuseBump, op, 8, value))
		}
	}
	for _, a := range edges() {
		wantWhole(t, bump(t, a, a, api.OpLoad4, "const 3", api.OpXor, api.OpStore4), thing(0, 0, api.FuseBump, api.OpXor, a, 3))
		wantUnfit(t, bump(t, a, a+1, api.OpLoad4, "const 3", api.OpXor, api.OpStore4), 0, 6, api.FuseBump)
		wantUnfit(t, bump(t, a, a^1<<31, api.OpLoad4, "const 3", api.OpXor, api.OpStore4), 0, 6, api.FuseBump)
	}
}

// P22.1: a bump wants load4 and store4, a constant and a binary operation, and nothing between them.
func TestUnfitBump(t *testing.T) {
	for _, source := range []string{
		"local 8, local 8, load1, const 3, add, store4",
		"local 8, local 8, load2, const 3, add, store4",
		"local 8, local 8, load4, const 3, add, store1",
		"local 8, local 8, load4, const 3, add, store2",
		"local 8, local 8, load4, local 3, add, store4",
		"local 8, local 8, load4, const 3, neg, store4",
		"local 8, local 8, load4, const 3, not, store4",
		"local 8, local 8, load4, const 3, negf, store4",
		"local 8, local 8, load4, const 3, eq 3, store4",
		"local 8, local 8, load4, const 3, add, nop, store4",
		"local 8, local 8, load4, const 3, add, add, store4",
		"local 8, nop, local 8, load4, const 3, add, store4",
		"local 8, local 8, nop, load4, const 3, add, store4",
		"local 8, local 8, load4, add, store4",
		"local 8, local 8, load4, nop, add, store4",
		"local 8, local 8, load4, const 3, store4",
		"local 8, load4, const 3, add, store4",
		"local 8, dup, load4, const 3, add, store4",
		"const 8, const 8, load4, const 3, add, store4",
		"local 8, local 8, load4, const 3, const 4, add, store4",
		"local 8, local 8, load4, const 3, add",
	} {
		code := lines(t, source)
		wantUnfit(t, code, 0, uint32(len(code)), api.FuseBump)
		checkAll(t, code, 0, uint32(len(code)))
	}
}

// P22.1: a constant has MaxConst instructions at most; the shapes around it stand behind or ahead of that many.
func TestLongestConstant(t *testing.T) {
	for _, long := range []string{times(15, "nop") + "const 6", "const 6, " + times(14, "nop") + "nop", "const 5, " + times(14, "not") + "not", times(8, "const 1") + adds(7) + ", nop"} {
		code := lines(t, long)
		if len(code) != 16 {
			t.Fatalf("%d instructions", len(code))
		}
		piece, _ := fold.Longest(code, 0, 16)
		for _, k := range []api.FuseKind{api.FuseOpConst, api.FuseBranchConst, api.FuseArgConst, api.FuseCallConst, api.FuseLoadConst, api.FuseStoreConst} {
			last, op := lastOf(k)
			whole := append(slices.Clone(code), last)
			wantFits(t, whole, 0, 17, thing(0, 17, k, op, piece.Value, last.Arg))
			// One more is no constant; from the next instruction on it is, if that begins one.
			more := slices.Insert(slices.Clone(whole), 0, in(api.OpNop, 0))
			wantUnfit(t, more, 0, 18, k)
			wantFits(t, more, 1, 18, thing(1, 17, k, op, piece.Value, last.Arg))
			checkAll(t, more, 0, 18)
		}
		bumped := slices.Concat(lines(t, "local 4, local 4, load4"), code, lines(t, "or, store4"))
		wantFits(t, bumped, 0, 21, thing(0, 21, api.FuseBump, api.OpOr, 4, piece.Value))
		bumped = slices.Insert(bumped, 3, in(api.OpNop, 0))
		wantUnfit(t, bumped, 0, 22, api.FuseBump)
	}
}

// lastOf gives an instruction that stands behind a constant, and the Op of the thing.
func lastOf(k api.FuseKind) (api.Instr, api.Op) {
	switch k {
	case api.FuseOpConst:
		return in(api.OpSub, 0), api.OpSub
	case api.FuseBranchConst:
		return in(api.OpGef, 77), api.OpGef
	case api.FuseArgConst:
		return in(api.OpArg, 3), 0
	case api.FuseCallConst:
		return in(api.OpCall, 0), 0
	case api.FuseLoadConst:
		return in(api.OpLoad1, 0), api.OpLoad1
	}
	return in(api.OpStore2, 0), api.OpStore2
}

// P22.1: rows that come to no word, to two, or to a jump are no constants; nor is one that takes what it has not put on.
func TestNoConstant(t *testing.T) {
	for _, source := range []string{
		"nop", "nop, nop", "const 1, pop", "const 1, const 2", "const 1, dup", "const 1, const 0, divi", "const 1, const 0, modu",
		"neg", "dup", "pop", "add", "const 1, add", "local 4", "local 4, load4", "const 1, const 1, eq 3", "const 1, const 1, ne 3",
		"const 1, const 1, ne 3, const 4", "const 1, load4", "load4", "const 1, arg 0, const 2",
	} {
		code := lines(t, source)
		if _, is := constantBy(code); is {
			t.Fatalf("%s is a constant", source)
		}
		for k := api.FuseOpConst; k <= api.FuseStoreConst; k++ {
			last, _ := lastOf(k)
			whole := append(slices.Clone(code), last)
			if got, is := checkFits(t, whole, 0, uint32(len(whole)), k); is && int(got.Len) == len(whole) {
				t.Errorf("%s: %v", source, got)
			}
		}
		bumped := slices.Concat(lines(t, "local 4, local 4, load4"), code, lines(t, "xor, store4"))
		wantUnfit(t, bumped, 0, uint32(len(bumped)), api.FuseBump)
	}
}

// P22.1: FusePush, FuseGoto and FuseNone are the whole piece that fold answers of the very stretch; a shorter one that is of another kind does not count.
func TestFitsFolded(t *testing.T) {
	code := lines(t, "const 1, nop, neg, pop, nop, const 3, const 3, eq 9, nop, nop")
	for end, want := range []api.Fused{
		{}, {}, thing(0, 2, api.FusePush, 0, 1, 0), thing(0, 3, api.FusePush, 0, 0xFFFFFFFF, 0), thing(0, 4, api.FuseNone, 0, 0, 0),
		thing(0, 5, api.FuseNone, 0, 0, 0), thing(0, 6, api.FusePush, 0, 3, 0), thing(0, 6, api.FusePush, 0, 3, 0), thing(0, 8, api.FuseGoto, 0, 9, 0),
		thing(0, 8, api.FuseGoto, 0, 9, 0), thing(0, 8, api.FuseGoto, 0, 9, 0),
	} {
		for _, k := range []api.FuseKind{api.FusePush, api.FuseGoto, api.FuseNone} {
			if k == want.Kind {
				wantFits(t, code, 0, uint32(end), want)
			} else {
				wantUnfit(t, code, 0, uint32(end), k)
			}
		}
	}
	wantFits(t, with(code, 7, in(api.OpNe, 9)), 0, 10, thing(0, 8, api.FuseNone, 0, 0, 0))
	// These have no bound but the stretch.
	long := lines(t, times(4000, "nop")+"const 8, "+times(4000, "not")+"pop")
	wantFits(t, long, 0, 8001, thing(0, 8001, api.FusePush, 0, 8, 0))
	wantFits(t, long, 0, 8002, thing(0, 8002, api.FuseNone, 0, 0, 0))
	wantUnfit(t, long, 0, 8002, api.FusePush)
}

// P22.1: a stretch that does not lie in the code, and a kind that is none.
func TestUnfit(t *testing.T) {
	for _, code := range [][]api.Instr{examples(t), lines(t, "nop"), {}, nil} {
		count := uint32(len(code))
		for _, span := range outside(count) {
			for _, k := range append(everyKind(), 0, 16, 99, 255) {
				wantUnfit(t, code, span[0], span[1], k)
			}
		}
	}
	for k := range 256 {
		if k == 0 || k > 15 {
			wantUnfit(t, examples(t), 0, 13, api.FuseKind(k))
			wantUnfit(t, lines(t, "nop, nop"), 0, 2, api.FuseKind(k))
			wantUnfit(t, lines(t, "nop"), 0, 1, api.FuseKind(k))
		}
	}
}

// outside gives stretches that do not lie in code of so many instructions.
func outside(count uint32) [][2]uint32 {
	return [][2]uint32{
		{0, 0}, {0, count + 1}, {count, count}, {count, count + 1}, {count + 1, count}, {count + 1, count + 2}, {1, 0}, {count, 0},
		{0, 1<<32 - 1}, {1<<32 - 1, 0}, {1<<32 - 1, 1<<32 - 1}, {1 << 31, 1<<32 - 1}, {0, 1 << 31}, {1<<32 - 2, 1<<32 - 1},
	}
}

// P22.1: a shape fits only if all of its instructions may be.
func TestUnfitMayNotBe(t *testing.T) {
	for _, source := range []string{
		"const 5, add", "const 5, neg, sub", "const 5, eq 3", "const 5, arg 3", "const 5, call", "const 5, load1", "const 5, store2",
		"local 5, arg 3", "local 5, load2", "local 5, load4, mul", "local 5, load4, gef 3", "local 5, local 5, load4, const 1, nop, add, store4",
		"nop, nop, nop", "const 5, not, not", "const 5, const 5, eq 3",
	} {
		code := lines(t, source)
		count := uint32(len(code))
		whole := checkLongest(t, code, 0, count)
		if whole.Len != count || whole.Kind == api.FuseOne {
			t.Fatalf("%s: %v", source, whole)
		}
		for at, one := range code {
			for _, bad := range []api.Instr{in(one.Op, mostBy(one.Op)+1), in(one.Op, 1<<32-1), in(0, one.Arg), in(60, one.Arg), in(one.Op+64, one.Arg), in(one.Op|128, one.Arg)} {
				if mayBe(bad) == api.OK {
					continue
				}
				spoilt := with(code, at, bad)
				if got, is := fuse.Fits(spoilt, 0, count, whole.Kind); is && got.Len > uint32(at) {
					t.Errorf("%s, with %v at %d: %v", source, bad, at, got)
				}
				for end := range count + 1 {
					checkAll(t, spoilt, 0, end)
				}
			}
		}
	}
}

// P22.1: no operation but those of the chapter's words stands at a place of a shape.
func TestOtherOperations(t *testing.T) {
	for _, source := range []string{"const 5, add", "const 5, nop, add", "local 5, load4", "local 5, load4, add", "local 5, local 5, load4, const 1, add, store4"} {
		code := lines(t, source)
		for at := range code {
			for op := api.OpNop; op <= api.LastOp; op++ {
				for _, arg := range []uint32{0, 5, mostBy(op)} {
					checkAll(t, with(code, at, in(op, arg)), 0, uint32(len(code)))
				}
			}
		}
	}
}

package step_test

import (
	"slices"
	"testing"

	"playpen/api"
	"playpen/isa"
)

// around gives a module with an operation in it, and its index; a comparison goes to the index 6.
func around(t testing.TB, op api.Op, arg uint32) (made, uint32) {
	t.Helper()
	takes, gives := rowBy(op)
	code := []api.Instr{in(api.OpEnter, 4)}
	for range takes {
		code = append(code, in(api.OpConst, 0))
	}
	at := uint32(len(code))
	if isBranch(op) {
		arg = 6
	}
	code = append(code, in(op, arg))
	if gives == 0 {
		code = append(code, in(api.OpConst, 1))
	}
	for range gives - 1 {
		code = append(code, in(api.OpPop, 0))
	}
	code = append(code, in(api.OpLeave, 4), in(api.OpConst, 2), in(api.OpLeave, 4))
	return mustTake(t, api.Image{Code: code, Stack: 128}), at
}

// wordOf gives the operation of a word.
func wordOf(t testing.TB, word string) api.Op {
	t.Helper()
	op, is := isa.ByWord(word)
	if !is {
		t.Fatalf("%q is no operation", word)
	}
	return op
}

// list gives words.
func list(words ...uint32) []uint32 { return words }

// wantOps wants an operation to make of words other words, with others below them that stay, at two places of SP, and nothing else to change but that PC goes on.
func wantOps(t *testing.T, word string, arg uint32, from, to []uint32) {
	t.Helper()
	m, at := around(t, wordOf(t, word), arg)
	for _, sp := range []uint32{128, 188} {
		for _, below := range [][]uint32{nil, {0xAAAAAAAA, 0, 0x55555555}} {
			s := filledState(stands(t, m, at, sp, slices.Concat(below, from)...))
			want := clonedState(s)
			want.PC, want.Ops = at+1, slices.Concat(below, to)
			if got := took(t, m, s); !sameState(got, want) {
				t.Errorf("%s %d of %x: Life %d, PC %d, SP %d, Ops %x; want %x", word, arg, from, got.Life, got.PC, got.SP, got.Ops, want.Ops)
			}
		}
	}
}

// P18.4: the operations that move words.
func TestMoves(t *testing.T) {
	wantOps(t, "nop", 0, nil, nil)
	wantOps(t, "const", 0, nil, list(0))
	wantOps(t, "const", 0xFFFFFFFF, nil, list(0xFFFFFFFF))
	wantOps(t, "const", 0x12345678, nil, list(0x12345678))
	wantOps(t, "pop", 0, list(7), nil)
	wantOps(t, "dup", 0, list(7), list(7, 7))
}

// P18.4: local adds to SP, modulo 2^32.
func TestLocal(t *testing.T) {
	for _, x := range []struct{ sp, n, want uint32 }{
		{128, 0, 128}, {188, 4, 192}, {192, 100, 292}, {132, 0xFFFFFFFC, 128}, {128, 0xFFFFFF80, 0}, {128, 0xFFFFFF7F, 0xFFFFFFFF}, {192, 0x80000000, 0x800000C0},
	} {
		m, at := around(t, api.OpLocal, x.n)
		s := stands(t, m, at, x.sp, 9)
		got := took(t, m, s)
		if !slices.Equal(got.Ops, list(9, x.want)) || got.PC != at+1 || got.SP != x.sp {
			t.Errorf("local %d at %d: %x, PC %d, SP %d", x.n, x.sp, got.Ops, got.PC, got.SP)
		}
	}
}

// P18.4: what the operations of one word make of it.
func TestUnary(t *testing.T) {
	for _, x := range []struct {
		word string
		a, c uint32
	}{
		{"sex8", 0x1FF, 0xFFFFFFFF}, {"sex8", 0x80, 0xFFFFFF80}, {"sex8", 0xFFFFFF7F, 0x7F},
		{"sex16", 0x8000, 0xFFFF8000}, {"sex16", 0xFFFF7FFF, 0x7FFF}, {"sex16", 0x1FFFF, 0xFFFFFFFF},
		{"neg", 5, 0xFFFFFFFB}, {"neg", 0, 0}, {"neg", 0x80000000, 0x80000000}, {"neg", 0xFFFFFFFF, 1},
		{"not", 0, 0xFFFFFFFF}, {"not", 0xFFFF0001, 0xFFFE},
		{"negf", 0x3F800000, 0xBF800000}, {"negf", 0, 0x80000000}, {"negf", 0x7F800001, 0xFF800001},
		{"cvif", 0xFFFFFFFF, 0xBF800000}, {"cvif", 0, 0}, {"cvif", 16777217, 0x4B800000}, {"cvif", 0x80000000, 0xCF000000},
		{"cvfi", 0xC0600000, 0xFFFFFFFD}, {"cvfi", 0x7FC00000, 0}, {"cvfi", 0x4F000000, 0x7FFFFFFF}, {"cvfi", 0xFF800000, 0x80000000}, {"cvfi", 0x3F7FFFFF, 0},
	} {
		wantOps(t, x.word, 0, list(x.a), list(x.c))
	}
}

// P18.4: what the operations of two whole numbers make of them: a below, b on top.
func TestBinary(t *testing.T) {
	for _, x := range []struct {
		word    string
		a, b, c uint32
	}{
		{"add", 2, 5, 7}, {"add", 0xFFFFFFFF, 2, 1}, {"sub", 2, 5, 0xFFFFFFFD}, {"sub", 5, 2, 3}, {"mul", 3, 0xFFFFFFFF, 0xFFFFFFFD}, {"mul", 0x10000, 0x10000, 0},
		{"divi", 0xFFFFFFF9, 2, 0xFFFFFFFD}, {"divi", 12, 4, 3}, {"divi", 0x80000000, 0xFFFFFFFF, 0x80000000}, {"divi", 0, 5, 0},
		{"modi", 0xFFFFFFF9, 2, 0xFFFFFFFF}, {"modi", 7, 0xFFFFFFFE, 1}, {"modi", 0x80000000, 0xFFFFFFFF, 0},
		{"divu", 0xFFFFFFF9, 2, 0x7FFFFFFC}, {"divu", 0x80000000, 0xFFFFFFFF, 0}, {"modu", 0xFFFFFFF9, 2, 1}, {"modu", 0x80000000, 0xFFFFFFFF, 0x80000000},
		{"and", 0xFF00FF00, 0x0FF00FF0, 0x0F000F00}, {"or", 0xFF00FF00, 0x0FF00FF0, 0xFFF0FFF0}, {"xor", 0xFF00FF00, 0x0FF00FF0, 0xF0F0F0F0},
		{"shl", 3, 31, 0x80000000}, {"shl", 3, 32, 3}, {"shl", 3, 33, 6}, {"shl", 3, 0xFFFFFFFF, 0x80000000},
		{"shri", 0x80000000, 31, 0xFFFFFFFF}, {"shri", 0x80000001, 32, 0x80000001}, {"shri", 0x80000000, 33, 0xC0000000}, {"shri", 0x7FFFFFFF, 31, 0},
		{"shru", 0x80000000, 31, 1}, {"shru", 0x80000001, 32, 0x80000001}, {"shru", 0x80000000, 33, 0x40000000},
	} {
		wantOps(t, x.word, 0, list(x.a, x.b), list(x.c))
	}
}

// P18.4: what the operations of two floats make of them; a float's division by nought is no fault.
func TestFloats(t *testing.T) {
	one, two, three, nan, endless := uint32(0x3F800000), uint32(0x40000000), uint32(0x40400000), uint32(0x7FC00000), uint32(0x7F800000)
	for _, x := range []struct {
		word    string
		a, b, c uint32
	}{
		{"addf", one, two, three}, {"addf", 0x4B800000, one, 0x4B800000}, {"addf", endless, 0xFF800000, nan}, {"addf", 0xFFC00001, one, nan},
		{"subf", three, one, two}, {"subf", one, three, 0xC0000000}, {"subf", 0x80000000, 0, 0x80000000},
		{"mulf", two, 0xBF800000, 0xC0000000}, {"mulf", 0x7F7FFFFF, two, endless}, {"mulf", endless, 0, nan},
		{"divf", one, three, 0x3EAAAAAB}, {"divf", one, 0, endless}, {"divf", 0xBF800000, 0, 0xFF800000}, {"divf", 0, 0, nan},
	} {
		wantOps(t, x.word, 0, list(x.a, x.b), list(x.c))
	}
}

// P18.4: each comparison, where it holds and where it does not: PC becomes the operand, or goes on.
func TestComparisons(t *testing.T) {
	least, most, nan, one, two := uint32(0x80000000), uint32(0x7FFFFFFF), uint32(0x7FC00000), uint32(0x3F800000), uint32(0x40000000)
	for _, x := range []struct {
		word  string
		a, b  uint32
		holds bool
	}{
		{"eq", 5, 5, true}, {"eq", 5, 6, false}, {"eq", least, 0, false}, {"ne", 5, 6, true}, {"ne", 5, 5, false},
		{"lti", least, most, true}, {"lti", most, least, false}, {"lti", 5, 5, false}, {"lei", 5, 5, true}, {"lei", least, 0, true}, {"lei", 0, least, false},
		{"gti", most, least, true}, {"gti", least, most, false}, {"gti", 5, 5, false}, {"gei", 5, 5, true}, {"gei", 0, least, true}, {"gei", least, 0, false},
		{"ltu", most, least, true}, {"ltu", least, most, false}, {"ltu", 5, 5, false}, {"leu", 5, 5, true}, {"leu", 0, least, true}, {"leu", least, 0, false},
		{"gtu", least, most, true}, {"gtu", most, least, false}, {"gtu", 5, 5, false}, {"geu", 5, 5, true}, {"geu", least, 0, true}, {"geu", 0, least, false},
		{"eqf", least, 0, true}, {"eqf", nan, nan, false}, {"eqf", one, two, false}, {"nef", nan, nan, true}, {"nef", one, two, true}, {"nef", least, 0, false},
		{"ltf", one, two, true}, {"ltf", two, one, false}, {"ltf", one, nan, false}, {"lef", one, one, true}, {"lef", two, one, false}, {"lef", nan, nan, false},
		{"gtf", two, one, true}, {"gtf", one, two, false}, {"gtf", nan, one, false}, {"gef", one, one, true}, {"gef", one, two, false}, {"gef", nan, nan, false},
	} {
		m, at := around(t, wordOf(t, x.word), 0)
		s := filledState(stands(t, m, at, 188, 9, x.a, x.b))
		want := clonedState(s)
		want.PC, want.Ops = at+1, list(9)
		if x.holds {
			want.PC = 6
		}
		if got := took(t, m, s); !sameState(got, want) {
			t.Errorf("%s of %x and %x: PC %d, Ops %x", x.word, x.a, x.b, got.PC, got.Ops)
		}
	}
}

// P18.4: a comparison or a goto may go back, to itself too.
func TestBack(t *testing.T) {
	m := module(t, 128, "0 enter 4, 1 const 1, 2 const 1, 3 eq 1, 4 goto 4, 5 goto 1")
	if got := took(t, m, stands(t, m, 3, 188, 8, 8)); got.PC != 1 || len(got.Ops) != 0 {
		t.Errorf("eq: PC %d, Ops %x", got.PC, got.Ops)
	}
	if got := took(t, m, stands(t, m, 3, 188, 8, 9)); got.PC != 4 || len(got.Ops) != 0 {
		t.Errorf("eq: PC %d, Ops %x", got.PC, got.Ops)
	}
	s := stands(t, m, 4, 188, 5, 6)
	if got := took(t, m, s); !sameState(got, s) {
		t.Errorf("goto: PC %d, Ops %x", got.PC, got.Ops)
	}
	m = module(t, 128, "0 enter 4, 1 goto 4, 2 const 1, 3 leave 4, 4 goto 2")
	if got := tookMany(t, m, begun(t, m, 0), 2); got.PC != 4 {
		t.Errorf("goto: PC %d", got.PC)
	}
	if got := tookMany(t, m, begun(t, m, 0), 3); got.PC != 2 {
		t.Errorf("goto: PC %d", got.PC)
	}
}

// P18.4, P18.10: divisions by nought of each kind, and a break.
func TestDivideAndBreak(t *testing.T) {
	for _, word := range []string{"divi", "divu", "modi", "modu"} {
		m, at := around(t, wordOf(t, word), 0)
		for _, a := range list(0, 1, 0x80000000, 0xFFFFFFFF) {
			wantFault(t, m, filledState(stands(t, m, at, 188, 9, a, 0)), api.FaultDivide)
		}
		if got := took(t, m, stands(t, m, at, 188, 9, 0, 1)); got.Life != api.LifeRuns || !slices.Equal(got.Ops, list(9, 0)) {
			t.Errorf("%s of 0 and 1: Life %d, Ops %x", word, got.Life, got.Ops)
		}
	}
	m := module(t, 128, "0 enter 4, 1 break")
	wantFault(t, m, filledState(stands(t, m, 1, 188)), api.FaultBreak)
	wantFault(t, m, filledState(stands(t, m, 1, 128, 1, 2, 3)), api.FaultBreak)
}

// P18.4, P18.10: a jump goes to the jumps of its own procedure, and nowhere else.
func TestJumps(t *testing.T) {
	m := module(t, 128, "0 enter 4, 1 const 3, 2 jump, 3 const 1, 4 leave 4, 5 enter 4, 6 const 9, 7 jump, 8 break, 9 const 1, 10 leave 4", 3, 8, 9)
	for at, legal := range map[uint32][]uint32{2: {3}, 7: {8, 9}} {
		for to := range uint32(13) {
			s := filledState(stands(t, m, at, 188, 9, to))
			if !slices.Contains(legal, to) {
				wantFault(t, m, s, api.FaultJump)
				continue
			}
			want := clonedState(s)
			want.PC, want.Ops = to, list(9)
			if got := took(t, m, s); !sameState(got, want) {
				t.Errorf("from %d to %d: Life %d, PC %d, Ops %x", at, to, got.Life, got.PC, got.Ops)
			}
		}
		for _, to := range list(0x80000003, 0x10003, 0x10009, 0xFFFFFFFF, 0xFFFFFFFC) {
			wantFault(t, m, stands(t, m, at, 188, to), api.FaultJump)
		}
	}
	without := module(t, 128, "0 enter 4, 1 const 3, 2 jump, 3 const 1, 4 leave 4")
	wantFault(t, without, stands(t, without, 2, 188, 3), api.FaultJump)
}

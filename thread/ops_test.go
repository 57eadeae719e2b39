package thread_test

import (
	"fmt"
	"slices"
	"testing"

	"playpen/api"
	"playpen/isa"
	"playpen/step"
)

// around gives a module with an operation in it, and its index; a comparison goes to the index 6.
func around(t testing.TB, op api.Op, arg uint32) (made, uint32) {
	t.Helper()
	takes, gives := rowBy(op)
	code := []api.Instr{in(api.OpEnter, 4)}
	for range takes {
		code = append(code, in(api.OpConst, 0))
	}
	at := uint32(len(code))
	if isBranch(op) {
		arg = 6
	}
	code = append(code, in(op, arg))
	if gives == 0 {
		code = append(code, in(api.OpConst, 1))
	}
	for range gives - 1 {
		code = append(code, in(api.OpPop, 0))
	}
	code = append(code, in(api.OpLeave, 4), in(api.OpConst, 2), in(api.OpLeave, 4))
	return mustTake(t, api.Image{Code: code, Stack: 128}), at
}

// wantOps wants an operation to make of words other words, with others below them that stay, and nothing else to change but that PC goes on.
func wantOps(t *testing.T, word string, arg uint32, from, to []uint32) {
	t.Helper()
	m, at := around(t, wordOf(t, word), arg)
	for _, sp := range []uint32{128, 188} {
		for _, below := range [][]uint32{nil, {0xAAAAAAAA, 0, 0x55555555}} {
			p := crewOf(t, m)
			s := stands(m, at, sp, slices.Concat(below, from)...)
			wantOK(t, p.Put(s))
			wantResult(t, p, 1, nil, api.Result{End: api.EndFuel, At: at + 1, Used: 1})
			s.PC, s.Ops = at+1, slices.Concat(below, to)
			wantState(t, p, s)
		}
	}
}

// P24.3: the operations that make words of words, by hand.
func TestWordsByHand(t *testing.T) {
	one, two, three := uint32(0x3F800000), uint32(0x40000000), uint32(0x40400000)
	for _, x := range []struct {
		word     string
		arg      uint32
		from, to []uint32
	}{
		{"nop", 0, nil, nil}, {"const", 0x12345678, nil, list(0x12345678)}, {"const", 0xFFFFFFFF, nil, list(0xFFFFFFFF)},
		{"pop", 0, list(7), nil}, {"dup", 0, list(7), list(7, 7)},
		{"sex8", 0, list(0x1FF), list(0xFFFFFFFF)}, {"sex16", 0, list(0x8000), list(0xFFFF8000)}, {"neg", 0, list(5), list(0xFFFFFFFB)}, {"not", 0, list(0xFFFF0001), list(0xFFFE)},
		{"negf", 0, list(one), list(0xBF800000)}, {"cvif", 0, list(0xFFFFFFFF), list(0xBF800000)}, {"cvfi", 0, list(0xC0600000), list(0xFFFFFFFD)},
		{"add", 0, list(2, 5), list(7)}, {"sub", 0, list(2, 5), list(0xFFFFFFFD)}, {"mul", 0, list(3, 0xFFFFFFFF), list(0xFFFFFFFD)},
		{"divi", 0, list(0xFFFFFFF9, 2), list(0xFFFFFFFD)}, {"modi", 0, list(0xFFFFFFF9, 2), list(0xFFFFFFFF)}, {"divi", 0, list(0x80000000, 0xFFFFFFFF), list(0x80000000)},
		{"divu", 0, list(0xFFFFFFF9, 2), list(0x7FFFFFFC)}, {"modu", 0, list(0xFFFFFFF9, 2), list(1)},
		{"and", 0, list(0xF0F0, 0xFF00), list(0xF000)}, {"or", 0, list(0xF0F0, 0xFF00), list(0xFFF0)}, {"xor", 0, list(0xF0F0, 0xFF00), list(0x0FF0)},
		{"shl", 0, list(3, 33), list(6)}, {"shri", 0, list(0x80000000, 31), list(0xFFFFFFFF)}, {"shru", 0, list(0x80000000, 31), list(1)},
		{"addf", 0, list(one, two), list(three)}, {"subf", 0, list(one, three), list(0xC0000000)}, {"mulf", 0, list(two, 0xBF800000), list(0xC0000000)},
		{"divf", 0, list(one, three), list(0x3EAAAAAB)}, {"divf", 0, list(one, 0), list(0x7F800000)}, {"divf", 0, list(0, 0), list(0x7FC00000)},
	} {
		wantOps(t, x.word, x.arg, x.from, x.to)
	}
}

// P24.3: local adds to SP, modulo 2^32.
func TestLocal(t *testing.T) {
	for _, x := range []struct{ sp, n, want uint32 }{{128, 0, 128}, {188, 4, 192}, {132, 0xFFFFFFFC, 128}, {128, 0xFFFFFF7F, 0xFFFFFFFF}, {192, 0x80000000, 0x800000C0}} {
		m, at := around(t, api.OpLocal, x.n)
		p := crewOf(t, m)
		wantOK(t, p.Put(stands(m, at, x.sp, 9)))
		p.Go(1, nil)
		if s := p.State(); !slices.Equal(s.Ops, list(9, x.want)) {
			t.Errorf("local %d at %d: %x", x.n, x.sp, s.Ops)
		}
	}
}

// P24.3: each comparison, where it holds and where it does not: PC becomes the operand, or goes on.
func TestComparisons(t *testing.T) {
	least, most, nan, one, two := uint32(0x80000000), uint32(0x7FFFFFFF), uint32(0x7FC00000), uint32(0x3F800000), uint32(0x40000000)
	for _, x := range []struct {
		word  string
		a, b  uint32
		holds bool
	}{
		{"eq", 5, 5, true}, {"eq", least, 0, false}, {"ne", 5, 6, true}, {"ne", 5, 5, false},
		{"lti", least, most, true}, {"lti", 5, 5, false}, {"lei", 5, 5, true}, {"lei", 0, least, false}, {"gti", most, least, true}, {"gti", 5, 5, false}, {"gei", 5, 5, true}, {"gei", least, 0, false},
		{"ltu", most, least, true}, {"ltu", 5, 5, false}, {"leu", 5, 5, true}, {"leu", least, 0, false}, {"gtu", least, most, true}, {"gtu", 5, 5, false}, {"geu", 5, 5, true}, {"geu", 0, least, false},
		{"eqf", least, 0, true}, {"eqf", nan, nan, false}, {"nef", nan, nan, true}, {"nef", least, 0, false},
		{"ltf", one, two, true}, {"ltf", one, nan, false}, {"lef", one, one, true}, {"lef", nan, nan, false}, {"gtf", two, one, true}, {"gtf", nan, one, false}, {"gef", one, one, true}, {"gef", one, two, false},
	} {
		m, at := around(t, wordOf(t, x.word), 0)
		p := crewOf(t, m)
		s := stands(m, at, 188, 9, x.a, x.b)
		wantOK(t, p.Put(s))
		s.PC, s.Ops = at+1, list(9)
		if x.holds {
			s.PC = 6
		}
		wantResult(t, p, 1, nil, api.Result{End: api.EndFuel, At: s.PC, Used: 1})
		wantState(t, p, s)
	}
}

// P24.3: a goto and a comparison may go back, a goto to itself too; a jump goes to the jumps of its own procedure.
func TestGotosAndJumps(t *testing.T) {
	m := module(t, 128, "0 enter 4, 1 const 1, 2 const 1, 3 eq 1, 4 goto 4")
	p := crewOf(t, m)
	wantOK(t, p.Start(0, nil))
	wantResult(t, p, 100, nil, api.Result{End: api.EndFuel, At: 1, Used: 100})
	wantOK(t, p.Put(stands(m, 4, 188)))
	wantResult(t, p, 1000, nil, api.Result{End: api.EndFuel, At: 4, Used: 1000})
	m = module(t, 128, "0 enter 4, 1 local 8, 2 load4, 3 jump, 4 const 1, 5 leave 4, 6 const 2, 7 leave 4, 8 enter 4, 9 const 3, 10 leave 4", 4, 6, 9)
	for to, want := range map[uint32]api.Result{
		4: {End: api.EndDone, At: 5, Value: 1, Used: 6}, 6: {End: api.EndDone, At: 7, Value: 2, Used: 6},
		5: {End: api.EndFault, At: 3, Fault: api.FaultJump, Used: 4}, 9: {End: api.EndFault, At: 3, Fault: api.FaultJump, Used: 4},
	} {
		p := crewOf(t, m)
		wantOK(t, p.Start(0, list(to)))
		wantResult(t, p, 100, nil, want)
	}
}

// P24.3: loads, stores and copies over the segment's end, and an argument of a call.
func TestBytesByHand(t *testing.T) {
	m := module(t, 128, `0 enter 12, 1 const 254, 2 const 0x11223344, 3 store4, 4 const 0x1FE, 5 load4, 6 arg 0, 7 const 255, 8 load2, 9 arg 1,
		10 const -1, 11 load1, 12 const 0x1FF, 13 const 0xABCD, 14 store2, 15 const 7, 16 const 0x177, 17 store1, 18 const 253, 19 const 255, 20 copy 4, 21 leave 12`)
	x := crewOf(t, m)
	wantOK(t, x.Start(0, nil))
	wantResult(t, x, 100, nil, api.Result{End: api.EndDone, At: 21, Value: 0x33, Used: 22})
	data := x.State().Data
	want := []byte{0, 0x11, 0, 0, 0, 0, 0, 0x77, 0}
	if !slices.Equal(data[:9], want) || !slices.Equal(data[252:], []byte{0, 0xCD, 0xAB, 0x11}) || word(data, 184) != 0x11223344 || word(data, 188) != 0x2233 {
		t.Errorf("%x, %x, %x", data[:9], data[252:], data[184:192])
	}
}

// P24.3: a procedure that calls itself comes back as often as it went.
func TestFactorial(t *testing.T) {
	m := module(t, 4096, `0 enter 68, 1 local 72, 2 load4, 3 const 0, 4 ne 7, 5 const 1, 6 leave 68,
		7 local 72, 8 load4, 9 dup, 10 const 1, 11 sub, 12 arg 0, 13 const 0, 14 call, 15 mul, 16 leave 68`)
	x := crewOf(t, m)
	wantOK(t, x.Start(0, list(10)))
	wantResult(t, x, 1000, nil, api.Result{End: api.EndDone, At: 16, Value: 3628800, Used: 10*15 + 7})
	if s := x.State(); s.SP != 4096-64 || len(s.Ops) != 0 {
		t.Errorf("SP %d, Ops %x", s.SP, s.Ops)
	}
}

// kindOf tells what came of a step apart from other things that could have come of the same operation.
func kindOf(m made, s, got api.State, r api.Result) string {
	switch {
	case got.Life == api.LifeFault:
		return fmt.Sprint("fault ", got.Fault)
	case r.End == api.EndReply && r.Used == 0:
		return "waits"
	case r.Replies > 0:
		return "made"
	case got.Life == api.LifeDone:
		return "done"
	}
	if one := m.image.Code[s.PC]; isBranch(one.Op) && got.PC == one.Arg {
		return "goes"
	}
	return "plain"
}

// faultsBy tells which faults come of which operations.
func faultsBy() map[api.Op][]api.Fault {
	return map[api.Op][]api.Fault{
		api.OpBreak: {api.FaultBreak},
		api.OpDivi:  {api.FaultDivide}, api.OpDivu: {api.FaultDivide}, api.OpModi: {api.FaultDivide}, api.OpModu: {api.FaultDivide},
		api.OpJump:  {api.FaultJump},
		api.OpCall:  {api.FaultCall, api.FaultSyscall, api.FaultDeep},
		api.OpEnter: {api.FaultStack},
		api.OpLeave: {api.FaultStack, api.FaultReturn, api.FaultDeep},
	}
}

// wanted tells what may come of each operation, with its word.
func wanted() []string {
	var list []string
	for op := api.OpNop; op <= api.LastOp; op++ {
		row, _ := isa.Info(op)
		if op != api.OpBreak {
			list = append(list, row.Word+" plain")
		}
		if isBranch(op) {
			list = append(list, row.Word+" goes")
		}
		for _, kind := range faultsBy()[op] {
			list = append(list, fmt.Sprint(row.Word, " fault ", kind))
		}
	}
	return append(list, "call made", "call waits", "leave done")
}

// P24.3: each operation, from scattered states, against what step.Step answers from the same state; all that may come of an operation has come of it.
func TestEveryOperation(t *testing.T) {
	seen := map[string]int{}
	for round := range uint64(600) {
		d := newDice(100 + round)
		m := d.someModule(t, 24)
		p := crewOf(t, m, d.someGrants()...)
		p.Log(true)
		for range 60 {
			s := d.someState(m)
			wantOK(t, p.Put(s))
			given := d.someReplies(3)
			r, _ := p.Go(1, given)
			p.Touched()
			got, turn, err := step.Step(m.Module, p.grants, s, given)
			if err != api.OK || !sameState(p.State(), got) || turn.Took != (r.Used == 1) || turn.Made != (r.Replies == 1) {
				t.Fatalf("PC %d: %+v, %+v", s.PC, r, turn)
			}
			if turn.Waits && (r.End != api.EndReply || !sameEvent(r.Ask, turn.Event)) || turn.Made && !sameEvent(r.Events[0], turn.Event) {
				t.Fatalf("PC %d: %+v, %+v", s.PC, r, turn)
			}
			if s.Life == api.LifeRuns {
				row, _ := isa.Info(m.image.Code[s.PC].Op)
				seen[row.Word+" "+kindOf(m, s, got, r)]++
			}
		}
	}
	for _, kind := range wanted() {
		if seen[kind] < 5 {
			t.Errorf("%s: %d times", kind, seen[kind])
		}
	}
}

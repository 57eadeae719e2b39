package step_test

import (
	"slices"
	"testing"

	"playpen/api"
	"playpen/step"
)

// many gives so many words, each another one.
func many(count int) []uint32 {
	words := make([]uint32, count)
	for i := range words {
		words[i] = uint32(i) * 0x01010101
	}
	return words
}

// deep gives a module whose first procedure needs 64 words, and whose second one needs one.
func deep(t testing.TB) made {
	t.Helper()
	return module(t, 256, "enter 4, "+times(63, "const 7")+"dup, "+times(63, "pop")+"leave 4, "+"129 enter 4, 130 const 1, 131 leave 4")
}

// P18.4, P18.9: a procedure that needs 64 words has them, and no more may be below.
func TestFullStack(t *testing.T) {
	m := deep(t)
	s := tookMany(t, m, begun(t, m, 0), 65)
	if len(s.Ops) != 64 || s.PC != 65 {
		t.Fatalf("%d words at %d", len(s.Ops), s.PC)
	}
	if s = tookMany(t, m, s, 64); s.Life != api.LifeDone || s.Value != 7 || len(s.Ops) != 0 {
		t.Errorf("Life %d, Value %d", s.Life, s.Value)
	}
	for pc := range uint32(129) {
		s := api.State{Life: api.LifeRuns, PC: pc, SP: 188, Data: make([]byte, 256), Ops: many(m.depths[pc])}
		if !step.Fits(m.Module, s) {
			t.Errorf("PC %d: %d words do not fit", pc, len(s.Ops))
		}
		if s.Ops = many(m.depths[pc] + 1); step.Fits(m.Module, s) {
			t.Errorf("PC %d: %d words fit", pc, len(s.Ops))
		}
	}
}

// P18.4: 63 words below a procedure that needs one.
func TestManyBelow(t *testing.T) {
	m := deep(t)
	s := filledState(stands(t, m, 129, 188, many(63)...))
	s = tookMany(t, m, s, 2)
	if !slices.Equal(s.Ops, append(many(63), 1)) {
		t.Fatalf("%x", s.Ops)
	}
	put(s.Data, 188, api.DoneMark)
	if s = tookMany(t, m, s, 1); s.Life != api.LifeDone || s.Value != 1 || !slices.Equal(s.Ops, many(63)) {
		t.Errorf("Life %d, Value %d, Ops %x", s.Life, s.Value, s.Ops)
	}
	s = begunAgain(t, m, s)
	if len(s.Ops) != 0 {
		t.Errorf("behind Start: %x", s.Ops)
	}
}

// P18.4: a system call on a full operand stack: its value stands in the place of its number.
func TestFullStackAsks(t *testing.T) {
	m := module(t, 256, "0 enter 4, 1 const -1, 2 call, 3 leave 4")
	s := stands(t, m, 2, 100, append(many(63), 0xFFFFFFFF)...)
	got, turn := check(t, m, []api.Grant{grant(0, 0)}, s, []api.Reply{reply(9)})
	if !turn.Made || !slices.Equal(got.Ops, append(many(63), 9)) {
		t.Errorf("%+v, Ops %x", turn, got.Ops)
	}
	if got, turn := check(t, m, []api.Grant{grant(0, 0)}, s, nil); !turn.Waits || !sameState(got, s) {
		t.Errorf("%+v, Ops %x", turn, got.Ops)
	}
}

// begunAgain gives the state behind a Start from any.
func begunAgain(t testing.TB, m made, s api.State) api.State {
	t.Helper()
	return checkStart(t, m, s, 0, nil)
}

// needing gives a module whose procedure at 0 calls with no word of its own below; the one at 4 needs so many words, and its call has all but one of them below.
func needing(t testing.TB, need int) (m made, call uint32) {
	t.Helper()
	m = module(t, 256, "0 enter 4, 1 const 4, 2 call, 3 leave 4, enter 4, "+times(need, "const 0")+"call, "+times(need-1, "pop")+"leave 4")
	return m, uint32(5 + need)
}

// P18.4, P18.10: a call of a procedure that needs as many words as are left, one fewer and one more.
func TestDeepCalls(t *testing.T) {
	for _, need := range []int{1, 2, 10, 63, 64} {
		m, _ := needing(t, need)
		for _, below := range []int{0, 1, 62 - need, 63 - need, 64 - need, 65 - need, 66 - need, 63} {
			// The caller itself needs one word.
			if below < 0 || below > 63 {
				continue
			}
			s := filledState(stands(t, m, 2, 100, append(many(below), 4)...))
			if below+need > 64 {
				wantFault(t, m, s, api.FaultDeep)
				continue
			}
			if got := took(t, m, s); got.Life != api.LifeRuns || got.PC != 4 || !slices.Equal(got.Ops, many(below)) {
				t.Errorf("need %d, %d below: Life %d, PC %d", need, below, got.Life, got.PC)
			}
		}
	}
}

// P18.4, P18.10: a return to a point at which its procedure has all words that it needs: the stack has them, or it does not.
func TestDeepReturns(t *testing.T) {
	for _, need := range []int{2, 10, 63, 64} {
		m, call := needing(t, need)
		back := call + 1
		if !m.isReturn(back) || m.depths[back] != need {
			t.Fatalf("need %d: depth %d", need, m.depths[back])
		}
		for count := 1; count <= 64; count++ {
			s := filledState(stands(t, m, 3, 100, many(count)...))
			put(s.Data, 104, back)
			if count < need {
				wantFault(t, m, s, api.FaultReturn)
				continue
			}
			if got := took(t, m, s); got.Life != api.LifeRuns || got.PC != back || !slices.Equal(got.Ops, many(count)) {
				t.Errorf("need %d, %d words: Life %d, Fault %d", need, count, got.Life, got.Fault)
			}
		}
	}
}

// P18.4, P18.10: a return to a point of little depth in a procedure that needs much later on.
func TestDeepLater(t *testing.T) {
	for _, need := range []int{2, 30, 63, 64} {
		// 0 calls ahead of its many words; the leave at the end is the other procedure's.
		m := module(t, 256, "0 enter 4, 1 const 0, 2 call, 3 pop, "+times(need, "const 0")+times(need-1, "pop")+"leave 4, enter 4, const 0, leave 4")
		leave := uint32(len(m.image.Code) - 1)
		for count := 1; count <= 64; count++ {
			s := filledState(stands(t, m, leave, 100, many(count)...))
			put(s.Data, 104, 3)
			if count-1+need > 64 {
				wantFault(t, m, s, api.FaultDeep)
				continue
			}
			if got := took(t, m, s); got.Life != api.LifeRuns || got.PC != 3 || len(got.Ops) != count {
				t.Errorf("need %d, %d words: Life %d, Fault %d", need, count, got.Life, got.Fault)
			}
		}
	}
}

// P18.4: a procedure that calls itself with a word kept comes to FaultDeep at 64 words, and to FaultStack where the stack is shorter.
func TestEndlessCalls(t *testing.T) {
	for _, x := range []struct {
		stack uint32
		kind  api.Fault
		pc    uint32
	}{{32768, api.FaultDeep, 3}, {64 + 62*4, api.FaultStack, 0}, {64 + 63*4, api.FaultDeep, 3}, {64, api.FaultStack, 0}} {
		m := module(t, x.stack, "0 enter 4, 1 const 1, 2 const 0, 3 call, 4 add, 5 leave 4")
		s := begun(t, m, 0)
		for s.Life == api.LifeRuns {
			s = took(t, m, s)
		}
		if s.Life != api.LifeFault || s.Fault != x.kind || s.PC != x.pc || x.kind == api.FaultDeep && len(s.Ops) != 64 {
			t.Errorf("stack %d: fault %d at %d, %d words", x.stack, s.Fault, s.PC, len(s.Ops))
		}
	}
}

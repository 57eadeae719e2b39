package step_test

import (
	"testing"

	"playpen/api"
)

// bounds is a stack, and the least and the greatest SP that it leaves.
type bounds struct{ stack, bottom, top uint32 }

// someBounds gives bounds of several stacks; the last ones are whole segments, below whose SP there is nothing.
func someBounds() []bounds {
	return []bounds{{128, 128, 192}, {64, 192, 192}, {68, 188, 192}, {256, 0, 192}, {300, 212, 448}, {512, 0, 448}, {32768, 0, 32704}}
}

// P18.4, P18.10: enter, to the stack's bottom, one word above it and one below it.
func TestEnter(t *testing.T) {
	for _, x := range someBounds() {
		for _, frame := range list(4, 8, 60, 64, 68, 188, 192, 196, 236, 240, 4096) {
			m := mustTake(t, api.Image{Code: []api.Instr{in(api.OpEnter, frame), in(api.OpConst, 1), in(api.OpLeave, frame)}, Stack: x.stack})
			for _, room := range []int64{0, 4, int64(frame) - 4, int64(frame), int64(frame) + 4, int64(x.top - x.bottom)} {
				if room > int64(x.top-x.bottom) {
					continue
				}
				s := filledState(stands(t, m, 0, x.bottom+uint32(room), 7))
				if room < int64(frame) {
					wantFault(t, m, s, api.FaultStack)
					continue
				}
				want := clonedState(s)
				want.PC, want.SP = 1, s.SP-frame
				if got := took(t, m, s); !sameState(got, want) {
					t.Errorf("stack %d: enter %d at %d: Life %d, SP %d", x.stack, frame, s.SP, got.Life, got.SP)
				}
			}
		}
	}
}

// P18.4, P18.10: leave, to the stack's top, one word below it and one above it. Above it no word is looked at.
func TestLeave(t *testing.T) {
	for _, x := range someBounds() {
		for _, frame := range list(4, 8, 60, 64, 68, 192, 4096) {
			m := mustTake(t, api.Image{Code: []api.Instr{in(api.OpEnter, frame), in(api.OpConst, 1), in(api.OpLeave, frame)}, Stack: x.stack})
			for _, p := range []int64{int64(x.top) - 4, int64(x.top), int64(x.top) + 4, int64(x.bottom) + int64(frame), int64(x.top) + int64(frame)} {
				sp := p - int64(frame)
				if sp < int64(x.bottom) || sp > int64(x.top) {
					continue
				}
				s := filledState(stands(t, m, 2, uint32(sp), 7, 8))
				put(s.Data, uint32(p)%uint32(len(s.Data)), api.DoneMark)
				if p > int64(x.top) {
					wantFault(t, m, s, api.FaultStack)
					continue
				}
				want := clonedState(s)
				want.Life, want.SP, want.Ops, want.Value = api.LifeDone, uint32(p), list(7), 8
				if got := took(t, m, s); !sameState(got, want) {
					t.Errorf("stack %d: leave %d at %d: Life %d, Fault %d, SP %d", x.stack, frame, sp, got.Life, got.Fault, got.SP)
				}
			}
		}
	}
}

// caller gives a module with return points of several depths: 3 (depth 1), 9 (depth 3), 20 (depth 2, in a procedure whose need is 2); 15 lies behind a call that is not reached.
func caller(t testing.TB) made {
	t.Helper()
	return module(t, 256, `0 enter 8, 1 const 16, 2 call, 3 leave 8,
		4 enter 4, 5 const 1, 6 const 2, 7 const 16, 8 call, 9 pop, 10 pop, 11 leave 4,
		12 enter 4, 13 goto 13, 14 call, 15 break,
		16 enter 4, 17 const 5, 18 const -1, 19 call, 20 add, 21 leave 4`)
}

// returning gives a state at a leave of the frame 4, of which the return word is r.
func returning(t testing.TB, m made, r uint32, ops ...uint32) api.State {
	t.Helper()
	s := filledState(stands(t, m, 21, 100, ops...))
	put(s.Data, 104, r)
	return s
}

// P18.4: a return goes to each return point whose depth the stack has; the word stays on the operand stack.
func TestReturns(t *testing.T) {
	m := caller(t)
	for _, x := range []struct {
		r   uint32
		ops []uint32
	}{
		{3, list(7)}, {3, list(1, 2, 7)}, {9, list(1, 2, 7)}, {9, list(1, 2, 3, 7)}, {20, list(5, 7)}, {20, list(4, 5, 7)},
	} {
		s := returning(t, m, x.r, x.ops...)
		want := clonedState(s)
		want.PC, want.SP = x.r, 104
		if got := took(t, m, s); !sameState(got, want) {
			t.Errorf("to %d with %x: Life %d, Fault %d, PC %d, SP %d, Ops %x", x.r, x.ops, got.Life, got.Fault, got.PC, got.SP, got.Ops)
		}
	}
}

// P18.4, P18.10: a forged return to a point whose depth the stack has not, or to no return point, is a fault.
func TestForgedReturns(t *testing.T) {
	m := caller(t)
	for _, x := range []struct {
		r   uint32
		ops []uint32
	}{
		{9, list(7)}, {9, list(6, 7)}, {20, list(7)},
	} {
		wantFault(t, m, returning(t, m, x.r, x.ops...), api.FaultReturn)
	}
	for r := range uint32(25) {
		if r != 3 && r != 9 && r != 20 {
			wantFault(t, m, returning(t, m, r, 1, 2, 3, 4), api.FaultReturn)
		}
	}
	for _, r := range list(0xFFFFFFFE, 0x80000003, 0x10003, 0x100, 0x7FFFFFFF, 16384, 0xFFFFFF03) {
		wantFault(t, m, returning(t, m, r, 1, 2, 3, 4), api.FaultReturn)
	}
}

// P18.4: a run that forges its own return word, by the ordinary instructions, comes where that is.
func TestForgedRun(t *testing.T) {
	m := module(t, 256, `0 enter 4, 1 const 9, 2 call, 3 leave 4, 4 const 50, 5 const 6, 6 call, 7 goto 3, 8 break,
		9 enter 4, 10 local 4, 11 const 13, 12 store4, 13 const 77, 14 leave 4`)
	wantFault(t, m, tookMany(t, m, begun(t, m, 0), 8), api.FaultReturn)
	m = module(t, 256, `0 enter 4, 1 const 8, 2 call, 3 pop, 4 const 8, 5 call, 6 leave 4, 7 break,
		8 enter 4, 9 local 4, 10 const 6, 11 store4, 12 const 77, 13 leave 4`)
	s := tookMany(t, m, begun(t, m, 0), 10)
	if s.Life != api.LifeDone || s.Value != 77 || s.PC != 6 {
		t.Errorf("Life %d, Fault %d, PC %d, Value %d", s.Life, s.Fault, s.PC, s.Value)
	}
}

// P18.4: a procedure that calls itself comes back as often as it went.
func TestFactorial(t *testing.T) {
	m := module(t, 4096, `0 enter 68, 1 local 72, 2 load4, 3 const 0, 4 ne 7, 5 const 1, 6 leave 68,
		7 local 72, 8 load4, 9 dup, 10 const 1, 11 sub, 12 arg 0, 13 const 0, 14 call, 15 mul, 16 leave 68`)
	s := begun(t, m, 0, 10)
	for range 10*15 + 7 {
		if s.Life != api.LifeRuns {
			t.Fatalf("PC %d, Life %d, Fault %d", s.PC, s.Life, s.Fault)
		}
		s = took(t, m, s)
	}
	if s.Life != api.LifeDone || s.Value != 3628800 || s.SP != 4096-64 || len(s.Ops) != 0 {
		t.Errorf("Life %d, Fault %d, Value %d, SP %d", s.Life, s.Fault, s.Value, s.SP)
	}
}

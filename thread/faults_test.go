package thread_test

import (
	"testing"

	"playpen/api"
)

// wantFault wants a run to meet a fault at its next instruction: everything else stays, what it touches is told, and a Go behind it tells the fault again and changes nothing.
func wantFault(t *testing.T, m made, s api.State, kind api.Fault, touched ...[]api.Touch) {
	t.Helper()
	p := crewOf(t, m)
	p.Log(true)
	wantOK(t, p.Put(s))
	wantResult(t, p, 0, replies(1), api.Result{End: api.EndFuel, At: s.PC})
	want := clonedState(s)
	for _, used := range []int{1, 0, 0} {
		wantResult(t, p, 5, replies(1), api.Result{End: api.EndFault, At: s.PC, Fault: kind, Used: used})
		want.Life, want.Fault = api.LifeFault, kind
		wantState(t, p, want)
		wantTouched(t, p, touched...)
		touched = nil
	}
	wantResult(t, p, 0, nil, api.Result{End: api.EndFault, At: s.PC, Fault: kind})
}

// returns gives a state at a leave of the frame 4, of which the return word is r.
func returns(m made, pc, r uint32, ops ...uint32) api.State {
	s := stands(m, pc, 100, ops...)
	put(s.Data, 104, r)
	return s
}

// P24.3: FaultBreak, FaultDivide, FaultJump: everything else stays, the words that were taken too; nothing is touched.
func TestPlainFaults(t *testing.T) {
	m := module(t, 128, "0 enter 4, 1 break")
	wantFault(t, m, stands(m, 1, 188), api.FaultBreak)
	wantFault(t, m, stands(m, 1, 128, 1, 2, 3), api.FaultBreak)
	for _, word := range []string{"divi", "divu", "modi", "modu"} {
		m, at := around(t, wordOf(t, word), 0)
		for _, a := range list(0, 1, 0x80000000, 0xFFFFFFFF) {
			wantFault(t, m, stands(m, at, 188, 9, a, 0), api.FaultDivide)
			wantFault(t, m, stands(m, at, 188, a, 0), api.FaultDivide)
		}
	}
	m = module(t, 128, "0 enter 4, 1 const 3, 2 jump, 3 const 1, 4 leave 4, 5 enter 4, 6 const 9, 7 leave 4", 3, 6)
	for _, to := range list(0, 1, 2, 4, 5, 6, 7, 8, 0x10003, 0x80000003, 0xFFFFFFFF) {
		wantFault(t, m, stands(m, 2, 188, 9, to), api.FaultJump)
	}
}

// P24.3: FaultStack of an enter, at each room below what it wants; of a leave above the stack's top, whose return word is not looked at.
func TestStackFaults(t *testing.T) {
	for _, x := range []struct{ stack, bottom, top uint32 }{{128, 128, 192}, {64, 192, 192}, {68, 188, 192}, {256, 0, 192}, {512, 0, 448}, {300, 212, 448}} {
		for _, frame := range list(4, 8, 64, 68, 4096) {
			m := mustTake(t, api.Image{Code: []api.Instr{in(api.OpEnter, frame), in(api.OpConst, 1), in(api.OpLeave, frame)}, Stack: x.stack})
			for sp := x.bottom; sp <= x.top; sp += 4 {
				if sp-x.bottom < frame {
					wantFault(t, m, stands(m, 0, sp, 7), api.FaultStack)
				}
				s := stands(m, 2, sp, 7, 8)
				put(s.Data, (sp+frame)%m.size(), api.DoneMark)
				if sp+frame > x.top {
					wantFault(t, m, s, api.FaultStack)
				}
			}
		}
	}
}

// P24.3: an enter to the stack's bottom, and a leave to its top, meet no fault.
func TestStackEdges(t *testing.T) {
	m := module(t, 128, "0 enter 64, 1 const 5, 2 leave 64")
	p := crewOf(t, m)
	wantOK(t, p.Start(0, nil))
	wantResult(t, p, 1, nil, api.Result{End: api.EndFuel, At: 1, Used: 1})
	if s := p.State(); s.SP != 128 {
		t.Errorf("SP %d", s.SP)
	}
	wantResult(t, p, 2, nil, api.Result{End: api.EndDone, At: 2, Value: 5, Used: 2})
	if s := p.State(); s.SP != 192 {
		t.Errorf("SP %d", s.SP)
	}
}

// caller gives a module with return points of several depths: 3 (depth 1), 9 (depth 3), 20 (depth 2); 15 lies behind a call that is not reached.
func caller(t testing.TB) made {
	t.Helper()
	return module(t, 256, `0 enter 8, 1 const 16, 2 call, 3 leave 8,
		4 enter 4, 5 const 1, 6 const 2, 7 const 16, 8 call, 9 pop, 10 pop, 11 leave 4,
		12 enter 4, 13 goto 13, 14 call, 15 break,
		16 enter 4, 17 const 5, 18 const -1, 19 call, 20 add, 21 leave 4`)
}

// P24.3: FaultReturn: a forged return to no return point, or to one whose depth the stack has not; the return word is read, and nothing else is touched.
func TestReturnFaults(t *testing.T) {
	m := caller(t)
	word := reads(104, 4)
	for r := range uint32(24) {
		if r != 3 && r != 9 && r != 20 {
			wantFault(t, m, returns(m, 21, r, 1, 2, 3, 4), api.FaultReturn, word)
		}
	}
	for _, r := range list(0xFFFFFFFE, 0x80000003, 0x10003, 0x7FFFFFFF, 16384) {
		wantFault(t, m, returns(m, 21, r, 1, 2, 3, 4), api.FaultReturn, word)
	}
	wantFault(t, m, returns(m, 21, 9, 7), api.FaultReturn, word)
	wantFault(t, m, returns(m, 21, 9, 6, 7), api.FaultReturn, word)
	wantFault(t, m, returns(m, 21, 20, 7), api.FaultReturn, word)
}

// P24.3: a return to each return point whose depth the stack has: the word stays on the operand stack.
func TestReturns(t *testing.T) {
	m := caller(t)
	for _, x := range []struct {
		r   uint32
		ops []uint32
	}{{3, list(7)}, {3, list(1, 2, 7)}, {9, list(1, 2, 7)}, {9, list(1, 2, 3, 7)}, {20, list(5, 7)}} {
		p := crewOf(t, m)
		s := returns(m, 21, x.r, x.ops...)
		wantOK(t, p.Put(s))
		wantResult(t, p, 1, nil, api.Result{End: api.EndFuel, At: x.r, Used: 1})
		s.PC, s.SP = x.r, 104
		wantState(t, p, s)
	}
}

// P24.3: a run that ends with words below its own on the operand stack leaves them there.
func TestDoneWithWordsBelow(t *testing.T) {
	m := caller(t)
	p := crewOf(t, m)
	s := returns(m, 21, api.DoneMark, 1, 2, 7)
	wantOK(t, p.Put(s))
	wantResult(t, p, 9, nil, api.Result{End: api.EndDone, At: 21, Value: 7, Used: 1})
	s.Life, s.SP, s.Ops, s.Value = api.LifeDone, 104, list(1, 2), 7
	wantState(t, p, s)
	wantResult(t, p, 9, nil, api.Result{End: api.EndDone, At: 21, Value: 7})
	wantState(t, p, s)
}

// P24.3: FaultCall, of each index at which no procedure begins; FaultSyscall, of each number. Nothing is touched.
func TestCallFaults(t *testing.T) {
	m := caller(t)
	for to := range uint32(24) {
		if to != 0 && to != 4 && to != 12 && to != 16 {
			wantFault(t, m, stands(m, 2, 100, 1, to), api.FaultCall)
		}
	}
	for _, to := range list(0x10000, 0x10010, 16384, 0x7FFFFFFF) {
		wantFault(t, m, stands(m, 2, 100, 1, to), api.FaultCall)
	}
	for _, to := range list(0x80000000, 0x80000001, 0xFFFFFFF0, 0xFFFFFFFF) {
		wantFault(t, m, stands(m, 2, 100, 1, to), api.FaultSyscall)
	}
}

// P24.3: a call of each procedure lays down at SP where it comes back.
func TestCalls(t *testing.T) {
	m := caller(t)
	for _, at := range list(2, 8, 19) {
		for _, to := range list(0, 4, 12, 16) {
			for _, sp := range list(0, 4, 100, 192) {
				p := crewOf(t, m)
				s := stands(m, at, sp, 1, 2, to)
				wantOK(t, p.Put(s))
				wantResult(t, p, 1, nil, api.Result{End: api.EndFuel, At: to, Used: 1})
				s.PC, s.Ops = to, list(1, 2)
				put(s.Data, sp, at+1)
				wantState(t, p, s)
			}
		}
	}
}

// P24.3, P5: FaultDeep of a return to a procedure that needs much later on; the return word is read.
func TestDeepReturns(t *testing.T) {
	for _, need := range []int{2, 30, 63, 64} {
		m := module(t, 256, "0 enter 4, 1 const 0, 2 call, 3 pop, "+times(need, "const 0")+times(need-1, "pop")+"leave 4, enter 4, const 0, leave 4")
		leave := uint32(len(m.image.Code) - 1)
		for count := 1; count <= 64; count++ {
			s := returns(m, leave, 3, many(count)...)
			if count-1+need > 64 {
				wantFault(t, m, s, api.FaultDeep, reads(104, 4))
				continue
			}
			p := crewOf(t, m)
			wantOK(t, p.Put(s))
			wantResult(t, p, 1, nil, api.Result{End: api.EndFuel, At: 3, Used: 1})
		}
	}
}

// P5: a procedure that calls itself with a word kept comes to FaultDeep at 64 words, and to FaultStack where the stack is shorter.
func TestEndlessCalls(t *testing.T) {
	for _, x := range []struct {
		stack uint32
		kind  api.Fault
		pc    uint32
		used  int
		words int
	}{{32768, api.FaultDeep, 3, 4 * 63, 64}, {64 + 63*4, api.FaultDeep, 3, 4 * 63, 64}, {64 + 62*4, api.FaultStack, 0, 4*62 + 1, 62}, {64, api.FaultStack, 0, 1, 0}} {
		m := module(t, x.stack, "0 enter 4, 1 const 1, 2 const 0, 3 call, 4 add, 5 leave 4")
		p := crewOf(t, m)
		wantOK(t, p.Start(0, nil))
		wantResult(t, p, 1000, nil, api.Result{End: api.EndFault, At: x.pc, Fault: x.kind, Used: x.used})
		if got := len(p.State().Ops); got != x.words {
			t.Errorf("stack %d: %d words", x.stack, got)
		}
	}
}

// P24.3: a fault in the midst of a run, behind calls, stores and events: what was done ahead of it stays, and the fault is counted; a Start leads out of it, and a Put of the state ahead of it too.
func TestFaultInTheMidst(t *testing.T) {
	m := module(t, 256, "0 enter 8, 1 const 3, 2 const 77, 3 store1, 4 const -1, 5 call, 6 const 0, 7 divu, 8 leave 8")
	p := crewOf(t, m, grant(0, 0))
	wantOK(t, p.Start(0, nil))
	event := api.Event{At: 5, Number: 0, Value: 6}
	wantResult(t, p, 7, replies(6, 7), api.Result{End: api.EndFuel, At: 7, Used: 7, Replies: 1, Events: []api.Event{event}})
	ahead := p.State()
	wantOK(t, p.Start(0, nil))
	fault := api.Result{End: api.EndFault, At: 7, Fault: api.FaultDivide, Used: 8, Replies: 1, Events: []api.Event{event}}
	wantResult(t, p, 100, replies(6, 7), fault)
	want := clonedState(ahead)
	want.Life, want.Fault = api.LifeFault, api.FaultDivide
	wantState(t, p, want)
	if want.Data[3] != 77 || len(want.Ops) != 2 || want.Ops[0] != 6 || want.Ops[1] != 0 {
		t.Errorf("Ops %x", want.Ops)
	}
	ahead.Ops[1] = 4
	wantOK(t, p.Put(ahead))
	wantResult(t, p, 100, nil, api.Result{End: api.EndDone, At: 8, Value: 1, Used: 2})
	wantOK(t, p.Put(want))
	wantResult(t, p, 100, nil, api.Result{End: api.EndFault, At: 7, Fault: api.FaultDivide})
	wantOK(t, p.Start(0, nil))
	wantResult(t, p, 100, replies(6), fault)
}

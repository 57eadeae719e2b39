package thread_test

import (
	"slices"
	"strconv"
	"strings"
	"testing"

	"playpen/api"
)

// rowModule gives a module in which a row of instructions, which finds so many words and leaves so many others, lies between two leaders; the indices of its first instruction and of the one that T in its text stands for, and how long it is. Behind the row, where it does not go to T, stands a goto. Another procedure begins at P.
func rowModule(t testing.TB, row string, finds, leaves int) (m made, at, to uint32, length int) {
	t.Helper()
	length = strings.Count(row, ",") + 1
	begin := 1 + finds + 1
	target := begin + length + 1
	proc := target + leaves + 2
	row = strings.ReplaceAll(row, "T", strconv.Itoa(target))
	row = strings.ReplaceAll(row, "P", strconv.Itoa(proc))
	m = module(t, 128, "enter 8, "+times(finds, "local 4")+"goto "+strconv.Itoa(begin)+", "+row+", goto "+strconv.Itoa(target)+", "+
		times(leaves, "pop")+"const 7, leave 8, "+strconv.Itoa(proc)+" enter 4, const 1, leave 4")
	return m, uint32(begin), uint32(target), length
}

// rowState gives a state ahead of a row, with these words; its SP is 156.
func rowState(m made, at uint32, ops ...uint32) api.State {
	return stands(m, at, 156, ops...)
}

// circle gives touches of the places from one on, over the segment's end.
func circle(write bool, at, count uint32) []api.Touch {
	var all []api.Touch
	for i := range count {
		all = append(all, api.Touch{At: (at + i) % 256, Write: write})
	}
	return all
}

// P24.3, P24.8: each shape by hand: what it makes of words, data and PC, what it touches, in its order, and its fuel; and with each number of fuel below, as the single instructions.
func TestEachShape(t *testing.T) {
	filledWord := func(at uint32) uint32 { return word(filled(256), at) }
	wraps := uint32(filled(256)[254]) | uint32(filled(256)[255])<<8 | uint32(filled(256)[0])<<16 | uint32(filled(256)[1])<<24
	for _, x := range []struct {
		row     string
		kind    api.FuseKind
		beneath []uint32
		ops     []uint32
		goes    bool
		touched []api.Touch
		stores  func(data []byte)
	}{
		{"const 2, const 3, mul", api.FusePush, nil, list(6), false, nil, nil},
		{"const 5, neg, nop, dup, add", api.FusePush, nil, list(0xFFFFFFF6), false, nil, nil},
		{"const 1, const 1, eq T", api.FuseGoto, nil, nil, true, nil, nil},
		{"nop, const 5, pop", api.FuseNone, nil, nil, false, nil, nil},
		{"const 1, const 2, eq T", api.FuseNone, nil, nil, false, nil, nil},
		{"const 3, sub", api.FuseOpConst, list(10), list(7), false, nil, nil},
		{"const 2, const 3, mul, divi", api.FuseOpConst, list(20), list(3), false, nil, nil},
		{"const 9, lti T", api.FuseBranchConst, list(3), nil, true, nil, nil},
		{"const 9, lti T", api.FuseBranchConst, list(9), nil, false, nil, nil},
		{"const 0x40000000, const 0x3F800000, addf, gtf T", api.FuseBranchConst, list(0x40A00000), nil, true, nil, nil},
		{"const 5, arg 2", api.FuseArgConst, nil, nil, false, writes(168, 4), func(data []byte) { put(data, 168, 5) }},
		{"const 254, load4", api.FuseLoadConst, nil, list(wraps), false, circle(false, 254, 4), nil},
		{"const 254, load2", api.FuseLoadConst, nil, list(wraps & 0xFFFF), false, reads(254, 2), nil},
		{"const 127, not, load1", api.FuseLoadConst, nil, list(filledWord(128) & 0xFF), false, reads(128, 1), nil},
		{"const 0x11223344, store4", api.FuseStoreConst, list(0x55FF), nil, false, circle(true, 255, 4), func(data []byte) { copy(data, []byte{0x33, 0x22, 0x11}); data[255] = 0x44 }},
		{"const 0x11223344, store2", api.FuseStoreConst, list(7), nil, false, writes(7, 2), func(data []byte) { copy(data[7:], []byte{0x44, 0x33}) }},
		{"const 3, neg, store1", api.FuseStoreConst, list(9), nil, false, writes(9, 1), func(data []byte) { data[9] = 0xFD }},
		{"local 12, arg 1", api.FuseArgLocal, nil, nil, false, writes(164, 4), func(data []byte) { put(data, 164, 168) }},
		{"local 0xFFFFFF00, arg 14", api.FuseArgLocal, nil, nil, false, writes(216, 4), func(data []byte) { put(data, 216, 0xFFFFFF9C) }},
		{"local 8, load4", api.FuseLoadLocal, nil, list(filledWord(164)), false, reads(164, 4), nil},
		{"local 8, load2", api.FuseLoadLocal, nil, list(filledWord(164) & 0xFFFF), false, reads(164, 2), nil},
		{"local 99, load1", api.FuseLoadLocal, nil, list(filledWord(252) >> 24), false, reads(255, 1), nil},
		{"local 8, load4, sub", api.FuseOpLocal, list(5), list(5 - filledWord(164)), false, reads(164, 4), nil},
		{"local 98, load4, and", api.FuseOpLocal, list(0xF0F0F0F0), list(wraps & 0xF0F0F0F0), false, circle(false, 254, 4), nil},
		{"local 8, load4, eq T", api.FuseBranchLocal, list(filledWord(164)), nil, true, reads(164, 4), nil},
		{"local 8, load4, ltu T", api.FuseBranchLocal, list(filledWord(164)), nil, false, reads(164, 4), nil},
		{"local 8, load4, gtu T", api.FuseBranchLocal, list(filledWord(164) + 1), nil, true, reads(164, 4), nil},
		{"local 8, local 8, load4, const 7, sub, store4", api.FuseBump, nil, nil, false, append(reads(164, 4), writes(164, 4)...), func(data []byte) { put(data, 164, filledWord(164)-7) }},
		{"local 98, local 98, load4, const 1, const 2, add, xor, store4", api.FuseBump, nil, nil, false, append(circle(false, 254, 4), circle(true, 254, 4)...), func(data []byte) { data[254] ^= 3 }},
	} {
		m, at, to, length := rowModule(t, x.row, len(x.beneath), len(x.ops))
		wantCell(t, translated(t, m), at, x.kind, length)
		for _, below := range [][]uint32{nil, list(0xAAAAAAAA, 5)} {
			before := rowState(m, at, slices.Concat(below, x.beneath)...)
			for fuel := range length + 1 {
				c := crewOf(t, m)
				c.Log(true)
				wantOK(t, c.Put(before))
				want := api.Result{End: api.EndFuel, At: at + uint32(fuel), Used: fuel}
				after := before
				if fuel == length {
					after.PC, after.Ops = want.At, slices.Concat(below, x.ops)
					if x.goes {
						after.PC, want.At = to, to
					}
					if x.stores != nil {
						after.Data = slices.Clone(after.Data)
						x.stores(after.Data)
					}
				}
				wantResult(t, c, fuel, nil, want)
				if fuel == length {
					wantState(t, c, after)
					wantTouched(t, c, x.touched)
				}
				c.Go(100, nil)
				c.Touched()
			}
		}
		if t.Failed() {
			t.Fatal(x.row)
		}
	}
}

// wantLastFault wants a cell to meet a fault at its last instruction: the words that this would take are on the operand stack, the whole cell is counted, what was read is told, and with less fuel there is no fault yet.
func wantLastFault(t *testing.T, m made, at uint32, length int, kind api.Fault, before api.State, ops []uint32, touched []api.Touch, grants ...api.Grant) {
	t.Helper()
	for fuel := range length + 3 {
		c := crewOf(t, m, grants...)
		c.Log(true)
		wantOK(t, c.Put(before))
		if fuel < length {
			wantResult(t, c, fuel, nil, api.Result{End: api.EndFuel, At: at + uint32(fuel), Used: fuel})
			wantResult(t, c, length-fuel, nil, api.Result{End: api.EndFault, At: at + uint32(length) - 1, Fault: kind, Used: length - fuel})
		} else {
			wantResult(t, c, fuel, nil, api.Result{End: api.EndFault, At: at + uint32(length) - 1, Fault: kind, Used: length})
		}
		want := before
		want.Life, want.Fault, want.PC, want.Ops = api.LifeFault, kind, at+uint32(length)-1, ops
		wantState(t, c, want)
		wantTouched(t, c, touched)
		wantResult(t, c, 9, nil, api.Result{End: api.EndFault, At: want.PC, Fault: kind})
	}
}

// P24.3: a division by nought that is a cell's last instruction, of a constant, of a row that comes to nought, of a local word.
func TestDividesInCells(t *testing.T) {
	for _, op := range []string{"divi", "divu", "modi", "modu"} {
		for _, row := range []string{"const 0, ", "const 3, const 3, sub, ", "nop, const 0, nop, "} {
			m, at, _, length := rowModule(t, row+op, 1, 1)
			wantCell(t, translated(t, m), at, api.FuseOpConst, length)
			wantLastFault(t, m, at, length, api.FaultDivide, rowState(m, at, 8, 9), list(8, 9, 0), nil)
		}
		m, at, _, length := rowModule(t, "local 8, load4, "+op, 1, 1)
		wantCell(t, translated(t, m), at, api.FuseOpLocal, length)
		s := rowState(m, at, 8, 9)
		put(s.Data, 164, 0)
		wantLastFault(t, m, at, length, api.FaultDivide, s, list(8, 9, 0), reads(164, 4))
	}
}

// P24.3: calls of what is known that meet a fault.
func TestCallFaultsInCells(t *testing.T) {
	for row, x := range map[string]struct {
		kind api.Fault
		word uint32
	}{
		"const 1, call":               {api.FaultCall, 1},
		"const 99, call":              {api.FaultCall, 99},
		"const 7, const 1, add, call": {api.FaultCall, 8},
		"const 0x7FFFFFFF, call":      {api.FaultCall, 0x7FFFFFFF},
		"const -1, call":              {api.FaultSyscall, 0xFFFFFFFF},
		"const 2, neg, call":          {api.FaultSyscall, 0xFFFFFFFE},
		"const 0x80000000, call":      {api.FaultSyscall, 0x80000000},
	} {
		m, at, _, length := rowModule(t, row, 0, 1)
		wantCell(t, translated(t, m), at, api.FuseCallConst, length)
		wantLastFault(t, m, at, length, x.kind, rowState(m, at, 8), list(8, x.word), nil, grant(5, 1))
	}
}

// P24.3, P5: a call of what is known to a procedure that needs more words than there is room for, and one less.
func TestDeepCallsInCells(t *testing.T) {
	for _, need := range []int{1, 2, 30, 63, 64} {
		m := module(t, 256, "0 enter 4, 1 const 4, 2 call, 3 leave 4, 4 enter 4, "+times(need, "local 0")+times(need-1, "pop")+"leave 4")
		wantCell(t, translated(t, m), 1, api.FuseCallConst, 2)
		for below := range 64 {
			s := stands(m, 1, 100, many(below)...)
			if below+need > 64 {
				wantLastFault(t, m, 1, 2, api.FaultDeep, s, append(many(below), 4), nil)
				continue
			}
			c := crewOf(t, m)
			wantOK(t, c.Put(s))
			wantResult(t, c, 2, nil, api.Result{End: api.EndFuel, At: 4, Used: 2})
			wantResult(t, c, need+1, nil, api.Result{End: api.EndFuel, At: uint32(5 + need), Used: need + 1})
			if got := len(c.State().Ops); got != below+need {
				t.Errorf("need %d, %d below: %d words", need, below, got)
			}
		}
	}
}

// P24.3: a call of what is known of a procedure, and the way back.
func TestCallInCell(t *testing.T) {
	m, at, _, length := rowModule(t, "const P, call", 0, 1)
	wantCell(t, translated(t, m), at, api.FuseCallConst, length)
	proc, _ := m.ProcOf(uint32(m.Count()) - 1)
	c := crewOf(t, m)
	c.Log(true)
	s := rowState(m, at, 8)
	wantOK(t, c.Put(s))
	wantResult(t, c, 2, nil, api.Result{End: api.EndFuel, At: proc.Begin, Used: 2})
	s.PC = proc.Begin
	put(s.Data, 156, at+2)
	wantState(t, c, s)
	wantTouched(t, c, writes(156, 4))
	wantResult(t, c, 3, nil, api.Result{End: api.EndFuel, At: at + 2, Used: 3})
	s.PC, s.Ops = at+2, list(8, 1)
	wantState(t, c, s)
	wantTouched(t, c, reads(156, 4))
}

// P24.3, P24.8: a system call that is a cell's last instruction: with each number of fuel, without a reply it waits, the constant on the operand stack and counted, the call not; with one it is made; with the log on.
func TestSystemCallInCell(t *testing.T) {
	for _, row := range []string{"const -3, call", "const 1, const 1, add, not, call"} {
		m, at, _, length := rowModule(t, row, 0, 1)
		wantCell(t, translated(t, m), at, api.FuseCallConst, length)
		last := at + uint32(length) - 1
		s := rowState(m, at, 8)
		ask := api.Event{At: last, Number: 2, Args: list(word(s.Data, 160), word(s.Data, 164))}
		event := ask
		event.Value = 77
		for fuel := range length + 3 {
			c := crewOf(t, m, grant(2, 2))
			c.Log(true)
			wantOK(t, c.Put(s))
			if fuel < length-1 {
				wantResult(t, c, fuel, nil, api.Result{End: api.EndFuel, At: at + uint32(fuel), Used: fuel})
			} else {
				wantResult(t, c, fuel, nil, api.Result{End: api.EndReply, At: last, Used: length - 1, Ask: ask})
				want := s
				want.PC, want.Ops = last, list(8, 0xFFFFFFFD)
				wantState(t, c, want)
			}
			wantTouched(t, c)
			left := length - min(fuel, length-1)
			wantResult(t, c, 99, nil, api.Result{End: api.EndReply, At: last, Used: left - 1, Ask: ask})
			given := []api.Reply{reply(77, write(254, 1, 2, 3), write(0, 9)), reply(78)}
			wantResult(t, c, 0, given, api.Result{End: api.EndFuel, At: last})
			wantResult(t, c, 1, given, api.Result{End: api.EndFuel, At: last + 1, Used: 1, Replies: 1, Events: []api.Event{event}})
			wantTouched(t, c, reads(160, 8), writes(254, 2), writes(0, 1), writes(0, 1))

			wantOK(t, c.Put(s))
			wantResult(t, c, length, given, api.Result{End: api.EndFuel, At: last + 1, Used: length, Replies: 1, Events: []api.Event{event}})
			want := clonedState(s)
			want.PC, want.Ops = last+1, list(8, 77)
			want.Data[254], want.Data[255], want.Data[0] = 1, 2, 9
			wantState(t, c, want)
		}
	}
}

// P24.3: replies that are used up within one Go: the cells behind find none.
func TestRepliesRunOut(t *testing.T) {
	m := module(t, 128, "0 enter 4, 1 const -1, 2 call, 3 pop, 4 goto 1")
	for fuel := range 30 {
		for count := range 8 {
			c := crewOf(t, m, grant(0, 0))
			wantOK(t, c.Start(0, nil))
			r, _ := c.Go(fuel, make([]api.Reply, count))
			// Of the first 1 + 4n instructions n have been asked for; the call of the next round waits behind two more.
			want := min(count, (fuel+1)/4)
			if fuel < 3 {
				want = 0
			}
			if r.Replies != want || len(r.Events) != want || r.End == api.EndReply != (fuel >= 2+4*count) {
				t.Errorf("fuel %d, %d replies: %+v", fuel, count, r)
			}
		}
	}
}

package flow_test

import (
	"iter"
	"slices"
	"testing"

	"playpen/api"
	"playpen/flow"
)

// mixed gives code with an instruction of each kind, some of them not reached, in two procedures.
func mixed(t *testing.T) given {
	t.Helper()
	return from(t, "0 enter 4, 1 const 1, 2 const 1, 3 eq 6, 4 goto 1, 5 break, 6 const 1, 7 call, 8 jump, 9 leave 4, 10 enter 8, 11 const 1, 12 jump, 13 break", 1, 6, 11, 13)
}

// P14.2: Next of every kind of instruction.
func TestNextByKind(t *testing.T) {
	g := mixed(t)
	for at, want := range map[uint32][]uint32{
		0: {1}, 1: {2}, 2: {3}, 3: {4, 6}, 4: {1}, 5: nil, 6: {7}, 7: {8}, 8: {1, 6}, 9: nil, 10: {11}, 11: {12}, 12: {11, 13}, 13: nil,
	} {
		wantNext(t, "mixed", g, at, want...)
	}
	check(t, g)
}

// P14.2: Next of each operation, in the midst of a procedure.
func TestNextByOperation(t *testing.T) {
	base := from(t, "0 enter 4, 1 nop, 2 nop, 3 nop, 4 nop, 5 break, 6 enter 4, 7 break", 1, 4, 7)
	for op := api.OpNop; op <= api.LastOp; op++ {
		for _, arg := range []uint32{1, 2, 3, 4, 5} {
			g, want := base.with(2, in(op, 0)), []uint32{3}
			switch kindBy(op) {
			case api.KindEnter:
				continue
			case api.KindBranch:
				g, want = base.with(2, in(op, arg)), []uint32{min(3, arg), max(3, arg)}
				want = slices.Compact(want)
			case api.KindGoto:
				g, want = base.with(2, in(op, arg)), []uint32{arg}
			case api.KindJump:
				want = []uint32{1, 4}
			case api.KindLeave:
				g, want = base.with(2, in(op, 4)), nil
			case api.KindStop:
				want = nil
			}
			wantNext(t, "an operation", g, 2, want...)
		}
	}
}

// P14.2: a branch to the instruction behind it has one Next, and each is told once, rising.
func TestNextOfBranches(t *testing.T) {
	base := from(t, "0 enter 4, 1 nop, 2 nop, 3 nop, 4 nop, 5 break")
	for _, op := range comparisons() {
		wantNext(t, "the one behind", base.with(3, in(op, 4)), 3, 4)
		wantNext(t, "back", base.with(3, in(op, 1)), 3, 1, 4)
		wantNext(t, "itself", base.with(3, in(op, 3)), 3, 3, 4)
		wantNext(t, "on", base.with(3, in(op, 5)), 3, 4, 5)
	}
	var ways []pair
	for from, to := range flow.Ways(base.with(3, in(api.OpEq, 4)).code, nil) {
		ways = append(ways, pair{from, to})
	}
	if !slices.Equal(ways, []pair{{0, 1}, {1, 2}, {2, 3}, {3, 4}, {4, 5}}) {
		t.Errorf("%v", ways)
	}
}

// P14.2: a jump has the targets of its own procedure, one that is itself among them too.
func TestNextOfJumps(t *testing.T) {
	g := from(t, "0 enter 4, 1 const 1, 2 jump, 3 jump, 4 enter 4, 5 jump, 6 enter 4, 7 nop, 8 jump")
	wantNext(t, "none at all", g, 2)
	g = g.jumping(1, 2, 7)
	wantNext(t, "its own", g, 2, 1, 2)
	wantNext(t, "not reached", g, 3, 1, 2)
	wantNext(t, "none in its procedure", g, 5)
	wantNext(t, "of the last procedure", g, 8, 7)
	wantNext(t, "all", g.jumping(1, 2, 3, 5, 7, 8), 3, 1, 2, 3)
	wantNext(t, "of one", g.jumping(1, 2, 3, 5, 7, 8), 5, 5)
	var jumps []uint32
	crowd := crowded(t, api.MaxInstrs/2-2, "const 1, jump, break")
	for at := uint32(1); int(at) < len(crowd.code)-1; at += 2 {
		jumps = append(jumps, at)
	}
	wantNext(t, "many", crowd, 2, jumps...)
	wantNext(t, "many, the last", crowd, uint32(len(crowd.code)-2), jumps...)
}

// P14.2: at the code's last index, and beyond it.
func TestNextAtTheEnd(t *testing.T) {
	g := from(t, "0 enter 4, 1 const 1, 2 goto 1")
	wantNext(t, "the last", g, 2, 1)
	wantNext(t, "a break", g.with(2, in(api.OpBreak, 0)), 2)
	wantNext(t, "a leave", g.with(2, in(api.OpLeave, 4)), 2)
	for _, at := range []uint32{3, 4, 100, api.MaxInstrs - 1, api.MaxInstrs, 1 << 16, 1<<16 + 1, 1 << 31, 1<<31 + 1, 1<<32 - 1} {
		if next, err := flow.Next(g.code, g.jumps, at); len(next) != 0 || err != api.ErrArg {
			t.Errorf("Next of %d: %v, %d", at, next, err)
		}
	}
	long := given{code: append(append([]api.Instr{in(api.OpEnter, 4)}, slices.Repeat([]api.Instr{in(api.OpNop, 0)}, api.MaxInstrs-2)...), in(api.OpGoto, api.MaxInstrs-1))}
	wantNext(t, "the longest", long, api.MaxInstrs-1, api.MaxInstrs-1)
	wantNext(t, "the longest, the last but one", long, api.MaxInstrs-2, api.MaxInstrs-1)
	if next, err := flow.Next(long.code, nil, api.MaxInstrs); len(next) != 0 || err != api.ErrArg {
		t.Errorf("beyond the longest: %v, %d", next, err)
	}
}

// P14.2, P14.3: Find's error comes ahead of ErrArg; Ways goes through nothing then.
func TestNextOfFindFaults(t *testing.T) {
	for what, f := range findFaults(t) {
		for _, at := range []uint32{0, 1, 7, 8, api.MaxInstrs, 1<<32 - 1} {
			if next, err := flow.Next(f.code, f.jumps, at); len(next) != 0 || err != f.err {
				t.Errorf("%s: Next of %d: %v, %d", what, at, next, err)
			}
		}
		if ways := pairs(t, flow.Ways(f.code, f.jumps)); len(ways) != 0 {
			t.Errorf("%s: Ways: %v", what, ways)
		}
	}
}

// P14.2, P14.3: a fault of the walk is none of Next and Ways.
func TestNextOfWalkFaults(t *testing.T) {
	g := from(t, "0 enter 4, 1 pop, 2 const 1, 3 leave 4, 4 enter 4, 5 eq 5, 6 leave 4")
	wantNext(t, "a fault", g, 1, 2)
	wantNext(t, "another one", g, 5, 5, 6)
	if ways := pairs(t, flow.Ways(g.code, nil)); !slices.Equal(ways, []pair{{0, 1}, {1, 2}, {2, 3}, {4, 5}, {5, 5}, {5, 6}}) {
		t.Errorf("%v", ways)
	}
	check(t, g)
}

func mixedWays() []pair {
	return []pair{{0, 1}, {1, 2}, {2, 3}, {3, 4}, {3, 6}, {4, 1}, {6, 7}, {7, 8}, {8, 1}, {8, 6}, {10, 11}, {11, 12}, {12, 11}, {12, 13}}
}

// P14.3: all pairs, rising.
func TestWays(t *testing.T) {
	g := mixed(t)
	if ways := pairs(t, flow.Ways(g.code, g.jumps)); !slices.Equal(ways, mixedWays()) {
		t.Errorf("%v", ways)
	}
	if ways := pairs(t, flow.Ways(lines(t, "enter 4, break"), nil)); !slices.Equal(ways, []pair{{0, 1}}) {
		t.Errorf("%v", ways)
	}
	if ways := pairs(t, flow.Ways(nil, nil)); len(ways) != 0 {
		t.Errorf("of no code: %v", ways)
	}
}

// P14.3: Ways may be left early, and be gone through again.
func TestWaysLeftEarly(t *testing.T) {
	g := mixed(t)
	ways := flow.Ways(g.code, g.jumps)
	for stop := range len(mixedWays()) {
		var got []pair
		for from, to := range ways {
			got = append(got, pair{from, to})
			if len(got) == stop+1 {
				break
			}
		}
		if !slices.Equal(got, mixedWays()[:stop+1]) {
			t.Errorf("left behind %d: %v", stop, got)
		}
	}
	for range 2 {
		if all := pairs(t, ways); !slices.Equal(all, mixedWays()) {
			t.Errorf("again: %v", all)
		}
	}
}

// P14.3: one walk within another one of the same iterator, and two by turns.
func TestWaysOneWithinTheOther(t *testing.T) {
	g := mixed(t)
	ways := flow.Ways(g.code, g.jumps)
	var outer []pair
	for from, to := range ways {
		outer = append(outer, pair{from, to})
		if inner := pairs(t, ways); !slices.Equal(inner, mixedWays()) {
			t.Errorf("within: %v", inner)
		}
		for range ways {
			break
		}
	}
	if !slices.Equal(outer, mixedWays()) {
		t.Errorf("without: %v", outer)
	}
	first, stopFirst := iter.Pull2(ways)
	second, stopSecond := iter.Pull2(ways)
	defer stopSecond()
	for i, want := range mixedWays() {
		if i < 5 {
			if from, to, is := first(); (pair{from, to}) != want || !is {
				t.Errorf("the first, %d: %d, %d, %t", i, from, to, is)
			}
		} else {
			stopFirst()
		}
		if from, to, is := second(); (pair{from, to}) != want || !is {
			t.Errorf("the second, %d: %d, %d, %t", i, from, to, is)
		}
	}
	if _, _, is := second(); is {
		t.Error("the second does not end")
	}
}

// P14.3: a loop that panics comes out of Ways, and the next one begins anew.
func TestWaysBehindAPanic(t *testing.T) {
	g := mixed(t)
	ways := flow.Ways(g.code, g.jumps)
	func() {
		defer func() {
			if recover() != "out" {
				t.Error("the loop's panic did not come out")
			}
		}()
		for range ways {
			panic("out")
		}
	}()
	if all := pairs(t, ways); !slices.Equal(all, mixedWays()) {
		t.Errorf("%v", all)
	}
}

// P14.3: what the lists held when Ways was called counts, whatever is laid over them ahead of the walk or during it.
func TestWaysOverwritten(t *testing.T) {
	g := mixed(t)
	ways := flow.Ways(g.code, g.jumps)
	clear(g.code)
	clear(g.jumps)
	if all := pairs(t, ways); !slices.Equal(all, mixedWays()) {
		t.Errorf("ahead of the walk: %v", all)
	}
	g = mixed(t)
	ways = flow.Ways(g.code, g.jumps)
	var got []pair
	for from, to := range ways {
		got = append(got, pair{from, to})
		g.code[13-len(got)%14] = in(api.OpGoto, 7)
		g.jumps[len(got)%4] = 99
	}
	if !slices.Equal(got, mixedWays()) {
		t.Errorf("during the walk: %v", got)
	}
	// Lists that were refused stay refused, even if they are mended later.
	bad := mixed(t).with(0, in(api.OpNop, 0))
	ways = flow.Ways(bad.code, bad.jumps)
	bad.code[0] = in(api.OpEnter, 4)
	if all := pairs(t, ways); len(all) != 0 {
		t.Errorf("mended: %v", all)
	}
}

// P14.3: very many pairs, all of them rising; such a walk may be left at once too.
func TestManyWays(t *testing.T) {
	pairs := api.MaxInstrs/2 - 2
	g := crowded(t, pairs, "const 1, jump, break")
	ways := flow.Ways(g.code, g.jumps)
	count, before := 0, pair{}
	for from, to := range ways {
		if now := (pair{from, to}); count > 0 && !(now.from > before.from || now.from == before.from && now.to > before.to) {
			t.Fatalf("%v behind %v", now, before)
		} else {
			before = now
		}
		count++
	}
	if want := 1 + (pairs + 1) + (pairs+1)*(pairs+1); count != want {
		t.Errorf("%d pairs, want %d", count, want)
	}
	for from, to := range ways {
		if from != 0 || to != 1 {
			t.Errorf("again: %d, %d", from, to)
		}
		break
	}
}

package alu_test

import (
	"testing"

	"playpen/alu"
	"playpen/api"
)

// P6.3: the document's examples, and each comparison below, at and above.
func TestHoldsRows(t *testing.T) {
	const below, even, above = 0, 1, 2
	one, two, less := uint32(1), uint32(2), uint32(0xFFFFFFFF)
	for _, c := range []struct {
		op   api.Op
		want [3]bool // of -1 and 1, of 1 and 1, of 2 and 1
	}{
		{api.OpEq, [3]bool{even: true}}, {api.OpNe, [3]bool{below: true, above: true}},
		{api.OpLti, [3]bool{below: true}}, {api.OpLei, [3]bool{below: true, even: true}}, {api.OpGti, [3]bool{above: true}}, {api.OpGei, [3]bool{even: true, above: true}},
	} {
		for k, a := range []uint32{less, one, two} {
			checkVerdict(t, c.op, a, one, judged(alu.Holds(c.op, a, one)), verdict{c.want[k], api.OK})
		}
	}
	for _, c := range []struct {
		op   api.Op
		a, b uint32
		want bool
	}{
		{api.OpLti, 0xFFFFFFFF, 0, true}, {api.OpLtu, 0xFFFFFFFF, 0, false}, {api.OpLtu, 0, 0xFFFFFFFF, true}, {api.OpLtu, 1, 1, false},
		{api.OpLeu, 1, 1, true}, {api.OpLeu, 0x80000000, 0x7FFFFFFF, false}, {api.OpGtu, 0x80000000, 0x7FFFFFFF, true}, {api.OpGtu, 1, 1, false}, {api.OpGeu, 1, 1, true}, {api.OpGeu, 0, 0xFFFFFFFF, false},
		{api.OpEq, 0x80000000, 0, false}, {api.OpEqf, 0x80000000, 0, true}, {api.OpNef, 0x80000000, 0, false}, {api.OpNe, 0x80000000, 0, true},
		{api.OpNef, api.NaN, api.NaN, true}, {api.OpEqf, api.NaN, api.NaN, false}, {api.OpEq, api.NaN, api.NaN, true},
		{api.OpLtf, api.NaN, 0, false}, {api.OpLef, api.NaN, api.NaN, false}, {api.OpGtf, 0, 0xFFFFFFFF, false}, {api.OpGef, api.NaN, api.NaN, false},
		{api.OpLtf, 0xBF800000, 0, true}, {api.OpLtf, 0, 0x80000000, false}, {api.OpLef, 0, 0x80000000, true}, {api.OpLef, 1, 0, false},
		{api.OpGtf, 0x7F800000, 0x7F7FFFFF, true}, {api.OpGtf, 0, 0x80000000, false}, {api.OpGef, 0x80000000, 0, true}, {api.OpGef, 0xFF800000, 0, false},
	} {
		checkVerdict(t, c.op, c.a, c.b, judged(alu.Holds(c.op, c.a, c.b)), verdict{c.want, api.OK})
	}
}

// P6.3: the third table, each edge with each edge.
func TestHolds(t *testing.T) {
	for op, f := range holdsTable() {
		for _, p := range pairs() {
			checkVerdict(t, op, p[0], p[1], judged(alu.Holds(op, p[0], p[1])), verdict{f(p[0], p[1]), api.OK})
		}
	}
}

// P6.3: false and ErrNotOp of every other number.
func TestHoldsNotOp(t *testing.T) {
	for _, op := range everyOp() {
		if _, ok := holdsTable()[op]; ok {
			continue
		}
		for _, a := range edgeWords() {
			checkVerdict(t, op, a, a, judged(alu.Holds(op, a, a)), verdict{false, api.ErrNotOp})
			checkVerdict(t, op, a, 1, judged(alu.Holds(op, a, 1)), verdict{false, api.ErrNotOp})
		}
	}
}

// both lays pairs down as they are one another's.
func both(list [][2]api.Op) map[api.Op]turn {
	turns := map[api.Op]turn{}
	for _, p := range list {
		turns[p[0]], turns[p[1]] = turn{p[1], api.OK}, turn{p[0], api.OK}
	}
	return turns
}

// swappedTable is what P6.4 lists.
func swappedTable() map[api.Op]turn {
	return both([][2]api.Op{
		{api.OpEq, api.OpEq}, {api.OpNe, api.OpNe}, {api.OpEqf, api.OpEqf}, {api.OpNef, api.OpNef},
		{api.OpLti, api.OpGti}, {api.OpLei, api.OpGei}, {api.OpLtu, api.OpGtu}, {api.OpLeu, api.OpGeu}, {api.OpLtf, api.OpGtf}, {api.OpLef, api.OpGef},
	})
}

// oppositeTable is what P6.5 lists.
func oppositeTable() map[api.Op]turn {
	turns := both([][2]api.Op{
		{api.OpEq, api.OpNe}, {api.OpLti, api.OpGei}, {api.OpLei, api.OpGti}, {api.OpLtu, api.OpGeu}, {api.OpLeu, api.OpGtu}, {api.OpEqf, api.OpNef},
	})
	for _, op := range []api.Op{api.OpLtf, api.OpLef, api.OpGtf, api.OpGef} {
		turns[op] = turn{0, api.ErrNone}
	}
	return turns
}

func checkTurns(t *testing.T, what string, call func(api.Op) (api.Op, api.Errno), table map[api.Op]turn) {
	t.Helper()
	for _, op := range everyOp() {
		want, ok := table[op]
		if !ok {
			want = turn{0, api.ErrNotOp}
		}
		if got := turnedTo(call(op)); got != want {
			t.Errorf("%s(%d): %d, %d, want %d, %d", what, op, got.op, got.err, want.op, want.err)
		}
	}
}

// P6.4: every number that an operation can have.
func TestSwapped(t *testing.T) { checkTurns(t, "Swapped", alu.Swapped, swappedTable()) }

// P6.5: every number that an operation can have.
func TestOpposite(t *testing.T) { checkTurns(t, "Opposite", alu.Opposite, oppositeTable()) }

// P6.6: twice is the operation itself, wherever once answers.
func TestTurnedTwice(t *testing.T) {
	for what, call := range map[string]func(api.Op) (api.Op, api.Errno){"Swapped": alu.Swapped, "Opposite": alu.Opposite} {
		answers := 0
		for _, op := range everyOp() {
			once, err := call(op)
			if err != api.OK {
				continue
			}
			answers++
			if twice, err := call(once); twice != op || err != api.OK {
				t.Errorf("%s twice of %d: %d, %d", what, op, twice, err)
			}
		}
		if answers < 12 {
			t.Errorf("%s answers of %d operations alone", what, answers)
		}
	}
}

// P6.6: a comparison says of a and b what the swapped one says of b and a, and what the opposite one does not.
func TestHoldsTurned(t *testing.T) {
	for op := range holdsTable() {
		swapped, _ := alu.Swapped(op)
		opposite, none := alu.Opposite(op)
		for _, p := range pairs() {
			checkHoldsTurned(t, op, swapped, p[0], p[1])
			if none != api.OK {
				continue
			}
			holds, _ := alu.Holds(op, p[0], p[1])
			checkVerdict(t, opposite, p[0], p[1], judged(alu.Holds(opposite, p[0], p[1])), verdict{!holds, api.OK})
		}
	}
}

func checkHoldsTurned(t *testing.T, op, swapped api.Op, a, b uint32) {
	t.Helper()
	checkVerdict(t, swapped, b, a, judged(alu.Holds(swapped, b, a)), judged(alu.Holds(op, a, b)))
}

// P6.5: no comparison of the table holds just where one of the floats' orders does not.
func TestNoOpposite(t *testing.T) {
	for op := range holdsTable() {
		if _, err := alu.Opposite(op); err != api.ErrNone {
			continue
		}
		for other := range holdsTable() {
			if isOpposite(op, other) {
				t.Errorf("%d holds just where %d does not", other, op)
			}
		}
	}
}

func isOpposite(op, other api.Op) bool {
	for _, p := range pairs() {
		one, _ := alu.Holds(op, p[0], p[1])
		two, _ := alu.Holds(other, p[0], p[1])
		if one == two {
			return false
		}
	}
	return true
}

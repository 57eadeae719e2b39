package cell_test

import (
	"testing"

	"playpen/api"
)

// P23.4: each instruction of the example, and those that it has not.
func TestWhereOfExample(t *testing.T) {
	x := exampleCells()
	for index, want := range [][2]uint32{{0, 0}, {1, 0}, {1, 1}, {1, 2}, {1, 3}, {2, 0}, {2, 1}, {3, 0}, {3, 1}, {4, 0}, {4, 1}, {5, 0}, {6, 0}, {7, 0}} {
		wantWhere(t, x, uint32(index), want[0], want[1])
	}
	for _, index := range []uint32{14, 15, 16384, 1 << 31, 1<<32 - 1} {
		wantNowhere(t, x, index)
	}
}

// P23.4: cells need not be as Check wants them: the first one that has the instruction is told, as whole numbers.
func TestWhereOfAnything(t *testing.T) {
	of := func(spans ...[2]uint32) api.Threaded {
		var x api.Threaded
		for _, span := range spans {
			x.Cells = append(x.Cells, api.Cell{Fused: api.Fused{At: span[0], Len: span[1]}})
		}
		return x
	}
	wantNowhere(t, api.Threaded{}, 0)
	wantNowhere(t, api.Threaded{Begins: []uint32{0, 0}}, 0)
	wantNowhere(t, of([2]uint32{0, 0}, [2]uint32{5, 0}, [2]uint32{6, 3}), 5)
	lap := of([2]uint32{9, 3}, [2]uint32{2, 9}, [2]uint32{0, 20}, [2]uint32{5, 1})
	for index, want := range map[uint32][2]uint32{0: {2, 0}, 1: {2, 1}, 2: {1, 0}, 5: {1, 3}, 8: {1, 6}, 9: {0, 0}, 10: {0, 1}, 11: {0, 2}, 12: {2, 12}, 19: {2, 19}} {
		wantWhere(t, lap, index, want[0], want[1])
	}
	wantNowhere(t, lap, 20)
	twice := of([2]uint32{3, 2}, [2]uint32{3, 2})
	wantWhere(t, twice, 4, 0, 1)
}

// P23.4: spans that reach beyond all words.
func TestWhereAtTheEnd(t *testing.T) {
	const last = 1<<32 - 1
	x := api.Threaded{Cells: []api.Cell{{}, {Fused: api.Fused{At: last - 1, Len: 9}}, {Fused: api.Fused{At: 1, Len: last}}}}
	wantWhere(t, x, last, 1, 1)
	wantWhere(t, x, last-1, 1, 0)
	wantWhere(t, x, last-2, 2, last-3)
	wantWhere(t, x, 1, 2, 0)
	wantNowhere(t, x, 0)
	x.Cells = x.Cells[:2]
	for _, index := range []uint32{0, 1, 7, 8, last - 2} {
		wantNowhere(t, x, index)
	}
	all := api.Threaded{Cells: []api.Cell{{Fused: api.Fused{At: 0, Len: last}}}}
	wantWhere(t, all, 0, 0, 0)
	wantWhere(t, all, last-1, 0, last-1)
	wantNowhere(t, all, last)
	wantWhere(t, api.Threaded{Cells: []api.Cell{{Fused: api.Fused{At: last, Len: last}}}}, last, 0, 0)
}

// P23.4: what the cells are besides, and Begins, changes nothing.
func TestWhereLooksAtSpansAlone(t *testing.T) {
	x := exampleCells()
	for i := range x.Cells {
		x.Cells[i].Fused = api.Fused{At: x.Cells[i].Fused.At, Len: x.Cells[i].Fused.Len, Kind: 200, Op: 200, A: 77, B: 77}
		x.Cells[i].To = uint32(i)
	}
	x.Begins = nil
	for index := range uint32(16) {
		number, ahead, err := checkWhere(t, exampleCells(), index)
		if n, into, e := checkWhere(t, x, index); n != number || into != ahead || e != err {
			t.Errorf("%d: %d, %d, %d, want %d, %d, %d", index, n, into, e, number, ahead, err)
		}
	}
}

// P23.4: scattered cells, few of which lie one behind the other.
func TestScatteredWhere(t *testing.T) {
	met := map[api.Errno]int{}
	for round := range uint64(3000) {
		d := newDice(round + 60000)
		var x api.Threaded
		for range d.upTo(6) {
			x.Cells = append(x.Cells, api.Cell{Fused: api.Fused{At: d.someWord(), Len: d.someWord()}, To: d.someWord()})
		}
		for range 10 {
			_, _, err := checkWhere(t, x, d.someWord())
			met[err]++
		}
	}
	if met[api.OK] < 1000 || met[api.ErrArg] < 1000 {
		t.Errorf("%v", met)
	}
}

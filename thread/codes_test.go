package thread_test

import (
	"slices"
	"testing"

	"playpen/api"
	"playpen/cell"
	"playpen/isa"
)

const no = api.NoCell

// goesBy tells whether an operation's operand is a place to which it goes.
func goesBy(op api.Op) bool { return op == api.OpGoto || isBranch(op) }

func isBranch(op api.Op) bool { return op >= api.OpEq && op <= api.OpGef }

// targetBy gives a thing's target, if it has one.
func targetBy(next api.Fused) (uint32, bool) {
	switch {
	case next.Kind == api.FuseOne && goesBy(next.Op), next.Kind == api.FuseGoto:
		return next.A, true
	case next.Kind == api.FuseBranchConst, next.Kind == api.FuseBranchLocal:
		return next.B, true
	}
	return 0, false
}

// numbered gives the threaded code of things, with the numbers that it must have, for so many instructions.
func numbered(things []api.Fused, count int) api.Threaded {
	x := api.Threaded{Begins: slices.Repeat(list(no), count)}
	for i, next := range things {
		x.Begins[next.At] = uint32(i)
	}
	for _, next := range things {
		c := api.Cell{Fused: next, To: no}
		if to, is := targetBy(next); is {
			c.To = x.Begins[to]
		}
		x.Cells = append(x.Cells, c)
	}
	return x
}

// alone gives the thing of one instruction as it stands.
func alone(m made, at uint32) api.Fused {
	return api.Fused{At: at, Len: 1, Kind: api.FuseOne, Op: m.image.Code[at].Op, A: m.image.Code[at].Arg}
}

// singles gives the threaded code of a module of which each instruction is a cell.
func singles(m made) api.Threaded {
	var things []api.Fused
	for at := range uint32(m.Count()) {
		things = append(things, alone(m, at))
	}
	return numbered(things, m.Count())
}

// translated gives what chapter 23 makes of a module.
func translated(t testing.TB, m made) api.Threaded {
	t.Helper()
	x, err := cell.Translate(m.Module)
	wantOK(t, err)
	return x
}

// clonedCode gives the same threaded code, in memory of its own.
func clonedCode(x api.Threaded) api.Threaded {
	return api.Threaded{Cells: slices.Clone(x.Cells), Begins: slices.Clone(x.Begins)}
}

// spoilCode writes over the lists of threaded code.
func spoilCode(x api.Threaded) {
	spoil(x.Cells, api.Cell{To: 77})
	spoil(x.Begins, 77)
}

// sameCode holds threaded code against each other; nothing in a list is nil or no elements.
func sameCode(a, b api.Threaded) bool {
	return slices.Equal(a.Cells, b.Cells) && slices.Equal(a.Begins, b.Begins)
}

// wantCell wants a cell of a kind and a length to begin at an instruction.
func wantCell(t testing.TB, x api.Threaded, at uint32, kind api.FuseKind, length int) {
	t.Helper()
	number := x.Begins[at]
	if number == no || x.Cells[number].Fused.Kind != kind || x.Cells[number].Fused.Len != uint32(length) {
		t.Fatalf("no cell of kind %d and length %d at %d: %v", kind, length, at, x)
	}
}

// rowBy tells how many words an operation takes and gives.
func rowBy(op api.Op) (takes, gives int) {
	row, _ := isa.Info(op)
	return row.Takes, row.Gives
}

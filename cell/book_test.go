package cell_test

import (
	"slices"
	"testing"

	"playpen/api"
	"playpen/fuse"
)

// This file says by hand what the chapter says: each instruction, each cell and each number is asked by itself.

func comparisons() []api.Op {
	return []api.Op{
		api.OpEq, api.OpNe, api.OpLti, api.OpLei, api.OpGti, api.OpGei, api.OpLtu, api.OpLeu, api.OpGtu, api.OpGeu,
		api.OpEqf, api.OpNef, api.OpLtf, api.OpLef, api.OpGtf, api.OpGef,
	}
}

// goesBy tells whether an operation's operand is a place to which it goes.
func goesBy(op api.Op) bool { return op == api.OpGoto || slices.Contains(comparisons(), op) }

// leadersBy gives what Leaders answers.
func leadersBy(im api.Image) []uint32 {
	named := map[uint32]bool{}
	for _, one := range im.Code {
		if goesBy(one.Op) {
			named[one.Arg] = true
		}
	}
	var list []uint32
	for i, one := range im.Code {
		_, jump := slices.BinarySearch(im.Jumps, uint32(i))
		if one.Op == api.OpEnter || named[uint32(i)] || jump || i > 0 && im.Code[i-1].Op == api.OpCall {
			list = append(list, uint32(i))
		}
	}
	return list
}

// targetBy gives a thing's target, or -1.
func targetBy(next api.Fused) int64 {
	switch {
	case next.Kind == api.FuseOne && goesBy(next.Op), next.Kind == api.FuseGoto:
		return int64(next.A)
	case next.Kind == api.FuseBranchConst, next.Kind == api.FuseBranchLocal:
		return int64(next.B)
	}
	return -1
}

// beginsBy gives the number of the cell whose first instruction has an index; NoCell, if it is none's.
func beginsBy(cells []api.Cell, index int64) uint32 {
	for i, c := range cells {
		if int64(c.Fused.At) == index {
			return uint32(i)
		}
	}
	return 0xFFFFFFFF
}

// numbered gives the threaded code of things, with the numbers that it must have, for so many instructions.
func numbered(things []api.Fused, count int) api.Threaded {
	var x api.Threaded
	for _, next := range things {
		x.Cells = append(x.Cells, api.Cell{Fused: next})
	}
	for i := range x.Cells {
		x.Cells[i].To = beginsBy(x.Cells, targetBy(x.Cells[i].Fused))
	}
	for i := range count {
		x.Begins = append(x.Begins, beginsBy(x.Cells, int64(i)))
	}
	return x
}

// thingsOf gives the things of cells.
func thingsOf(cells []api.Cell) []api.Fused {
	var list []api.Fused
	for _, c := range cells {
		list = append(list, c.Fused)
	}
	return list
}

// nextEnd gives the first leader behind an instruction, or the code's end.
func nextEnd(im api.Image, leads []uint32, at uint32) uint32 {
	for _, leader := range leads {
		if leader > at {
			return leader
		}
	}
	return uint32(len(im.Code))
}

// translateBy gives what Translate answers.
func translateBy(t testing.TB, im api.Image) api.Threaded {
	t.Helper()
	leads := leadersBy(im)
	var list []api.Fused
	for at := uint32(0); int(at) < len(im.Code); {
		next, err := fuse.Longest(im.Code, at, nextEnd(im, leads, at))
		if err != api.OK {
			t.Fatalf("Longest(%v, %d): %d", short(im.Code), at, err)
		}
		list = append(list, next)
		at += next.Len
	}
	return numbered(list, len(im.Code))
}

// cellBy gives the first of the three faults that a cell has, behind one that ends at an index.
func cellBy(im api.Image, leads []uint32, next api.Fused, behind int64) api.Errno {
	at, end := int64(next.At), int64(next.At)+int64(next.Len)
	if at != behind || next.Len == 0 || end > int64(len(im.Code)) {
		return api.ErrCover
	}
	for _, leader := range leads {
		if int64(leader) > at && int64(leader) < end {
			return api.ErrLeader
		}
	}
	if fits, is := fuse.Fits(im.Code, next.At, uint32(end), next.Kind); !is || fits != next {
		return api.ErrCell
	}
	return api.OK
}

// checkBy gives what Check answers of a module's image.
func checkBy(im api.Image, x api.Threaded) (int, api.Errno) {
	leads := leadersBy(im)
	behind := int64(0)
	for i, c := range x.Cells {
		if err := cellBy(im, leads, c.Fused, behind); err != api.OK {
			return i, err
		}
		behind += int64(c.Fused.Len)
	}
	if behind != int64(len(im.Code)) {
		return len(x.Cells), api.ErrCover
	}
	want := numbered(thingsOf(x.Cells), len(im.Code))
	if len(want.Begins) != len(x.Begins) {
		return len(x.Cells), api.ErrCellMap
	}
	for i := range want.Begins {
		if want.Begins[i] != x.Begins[i] {
			return len(x.Cells), api.ErrCellMap
		}
	}
	for i := range want.Cells {
		if want.Cells[i].To != x.Cells[i].To {
			return i, api.ErrCell
		}
	}
	return 0, api.OK
}

// whereBy gives what Where answers.
func whereBy(x api.Threaded, index uint32) (uint32, uint32, api.Errno) {
	for i, c := range x.Cells {
		at, length := int64(c.Fused.At), int64(c.Fused.Len)
		if at <= int64(index) && int64(index) < at+length {
			return uint32(i), uint32(int64(index) - at), api.OK
		}
	}
	return 0, 0, api.ErrArg
}

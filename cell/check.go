package cell

import (
	"slices"

	"playpen/api"
	"playpen/fuse"
	"playpen/verify"
)

// Check tells whether threaded code may stand for a module; else the number of the first cell at fault.
func Check(m *verify.Module, t api.Threaded) (int, api.Errno) {
	if isNone(m) {
		return 0, api.ErrNil
	}
	im := m.Image()
	leads, count := leaders(im), uint32(len(im.Code))
	place, next, err := 0, uint32(0), api.OK
cells:
	for _, c := range t.Cells {
		thing := c.Fused
		if thing.At != next || thing.Len == 0 || thing.Len > count-next {
			err = api.ErrCover
			break cells
		}
		next += thing.Len
		for inner := thing.At + 1; inner < next; inner++ {
			if leads.Has(inner) {
				err = api.ErrLeader
				break cells
			}
		}
		if made, is := fuse.Fits(im.Code, thing.At, next, thing.Kind); !is || made != thing {
			err = api.ErrCell
			break cells
		}
		place++
	}
	if err == api.OK && next != count {
		err = api.ErrCover
	}
	if err != api.OK {
		return place, err
	}
	return checkNumbers(t, len(im.Code))
}

// checkNumbers tells what is wrong with the numbers of cells that go through the whole code, each as its instructions are.
func checkNumbers(t api.Threaded, count int) (int, api.Errno) {
	begins := beginsOf(t.Cells, count)
	if !slices.Equal(t.Begins, begins) {
		return len(t.Cells), api.ErrCellMap
	}
	stray := func(c api.Cell) bool { return c.To != to(c.Fused, begins) }
	if i := slices.IndexFunc(t.Cells, stray); i >= 0 {
		return i, api.ErrCell
	}
	return 0, api.OK
}

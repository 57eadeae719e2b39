package cell_test

import (
	"slices"
	"testing"

	"playpen/api"
	"playpen/cell"
	"playpen/verify"
)

// example gives the module of the chapter's examples.
func example(t testing.TB) *verify.Module {
	t.Helper()
	return module(t, `0 enter 8, 1 const 2, 2 const 3, 3 add, 4 arg 0, 5 local 12, 6 load4, 7 const 9, 8 lti 12, 9 const 0,
		10 call, 11 pop, 12 const 0, 13 leave 8`)
}

// exampleCells gives the threaded code of the chapter's examples.
func exampleCells() api.Threaded {
	return api.Threaded{
		Cells: []api.Cell{
			{Fused: api.Fused{At: 0, Len: 1, Kind: api.FuseOne, Op: api.OpEnter, A: 8, B: 0}, To: no},
			{Fused: api.Fused{At: 1, Len: 4, Kind: api.FuseArgConst, Op: 0, A: 5, B: 0}, To: no},
			{Fused: api.Fused{At: 5, Len: 2, Kind: api.FuseLoadLocal, Op: api.OpLoad4, A: 12, B: 0}, To: no},
			{Fused: api.Fused{At: 7, Len: 2, Kind: api.FuseBranchConst, Op: api.OpLti, A: 9, B: 12}, To: 6},
			{Fused: api.Fused{At: 9, Len: 2, Kind: api.FuseCallConst, Op: 0, A: 0, B: 0}, To: no},
			{Fused: api.Fused{At: 11, Len: 1, Kind: api.FuseOne, Op: api.OpPop, A: 0, B: 0}, To: no},
			{Fused: api.Fused{At: 12, Len: 1, Kind: api.FuseOne, Op: api.OpConst, A: 0, B: 0}, To: no},
			{Fused: api.Fused{At: 13, Len: 1, Kind: api.FuseOne, Op: api.OpLeave, A: 8, B: 0}, To: no},
		},
		Begins: []uint32{0, 1, no, no, no, 2, no, 3, no, 4, no, 5, 6, 7},
	}
}

// The chapter's example 1.
func TestExampleLeaders(t *testing.T) {
	wantLeaders(t, "example", example(t), 0, 11, 12)
}

// The chapter's example 2.
func TestExampleTranslate(t *testing.T) {
	if got := checkTranslate(t, example(t)); !sameThreaded(got, exampleCells()) {
		t.Errorf("%v, want %v", got, exampleCells())
	}
	wantTold(t, "the example", example(t), exampleCells(), 0, api.OK)
}

// The chapter's example 3.
func TestExampleCheck(t *testing.T) {
	m, code := example(t), example(t).Image().Code
	x := exampleCells()
	x.Cells = append(x.Cells[:6], made(12, 2, api.FuseOne, api.OpConst, 0, 0, no))
	wantTold(t, "the last two as one", m, x, 6, api.ErrCell)

	x = exampleCells()
	things := slices.Concat(thingsOf(x.Cells[:3]), []api.Fused{thing(7, 1, api.FuseOne, api.OpConst, 9, 0), thing(8, 1, api.FuseOne, api.OpLti, 12, 0)}, thingsOf(x.Cells[4:]))
	apart := numbered(things, len(code))
	wantTold(t, "cell 3 taken apart", m, apart, 0, api.OK)
	if apart.Cells[4].To != 7 || !slices.Equal(apart.Begins, []uint32{0, 1, no, no, no, 2, no, 3, 4, 5, no, 6, 7, 8}) {
		t.Errorf("taken apart: %v", apart)
	}

	x = exampleCells()
	x.Cells = slices.Concat(x.Cells[:4], []api.Cell{alone(9, api.OpConst, 0, no), made(10, 3, api.FuseOne, api.OpCall, 0, 0, no)}, x.Cells[7:])
	wantTold(t, "a cell from 10 to 12", m, x, 5, api.ErrLeader)

	x = exampleCells()
	x.Cells = x.Cells[:7]
	wantTold(t, "the cells 0 to 6 alone", m, x, 7, api.ErrCover)

	x = exampleCells()
	x.Cells[3].To = 7
	wantTold(t, "To 7 at cell 3", m, x, 3, api.ErrCell)
}

// The chapter's example 4.
func TestExampleWhere(t *testing.T) {
	x, err := cell.Translate(example(t))
	if err != api.OK {
		t.Fatal(err)
	}
	wantWhere(t, x, 3, 1, 2)
	wantNowhere(t, x, 14)
}

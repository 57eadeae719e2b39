package fuse_test

import (
	"testing"

	"playpen/api"
)

// examples gives the code of the chapter's examples.
func examples(t testing.TB) []api.Instr {
	t.Helper()
	return lines(t, `0 local 8, 1 local 8, 2 load4, 3 const 1, 4 add, 5 store4, 6 const 2, 7 const 3, 8 mul, 9 lti 0,
		10 local 4, 11 load4, 12 eq 3`)
}

// The chapter's example 1.
func TestExampleLocals(t *testing.T) {
	code := examples(t)
	wantLongest(t, code, 0, 13, api.Fused{At: 0, Len: 6, Kind: api.FuseBump, Op: api.OpAdd, A: 8, B: 1})
	wantLongest(t, code, 0, 5, api.Fused{At: 0, Len: 1, Kind: api.FuseOne, Op: api.OpLocal, A: 8, B: 0})
	wantLongest(t, code, 1, 13, api.Fused{At: 1, Len: 2, Kind: api.FuseLoadLocal, Op: api.OpLoad4, A: 8, B: 0})
	wantLongest(t, code, 3, 13, api.Fused{At: 3, Len: 2, Kind: api.FuseOpConst, Op: api.OpAdd, A: 1, B: 0})
}

// The chapter's example 2.
func TestExampleConstants(t *testing.T) {
	code := examples(t)
	wantLongest(t, code, 6, 9, api.Fused{At: 6, Len: 3, Kind: api.FusePush, Op: 0, A: 6, B: 0})
	wantLongest(t, code, 6, 13, api.Fused{At: 6, Len: 4, Kind: api.FuseBranchConst, Op: api.OpLti, A: 6, B: 0})
	wantLongest(t, code, 10, 13, api.Fused{At: 10, Len: 3, Kind: api.FuseBranchLocal, Op: api.OpEq, A: 4, B: 3})
}

// The chapter's example 3.
func TestExampleFits(t *testing.T) {
	code := examples(t)
	wantFits(t, code, 6, 13, api.Fused{At: 6, Len: 3, Kind: api.FusePush, Op: 0, A: 6, B: 0})
	wantUnfit(t, code, 6, 13, api.FuseGoto)
	wantFits(t, code, 5, 13, api.Fused{At: 5, Len: 1, Kind: api.FuseOne, Op: api.OpStore4, A: 0, B: 0})
	wantUnfit(t, code, 0, 14, api.FuseOne)
	wantUnfit(t, code, 0, 13, 99)
}

// The chapter's example 4.
func TestExampleRow(t *testing.T) {
	wantRow(t, examples(t), 0, 13,
		api.Fused{At: 0, Len: 6, Kind: api.FuseBump, Op: api.OpAdd, A: 8, B: 1},
		api.Fused{At: 6, Len: 4, Kind: api.FuseBranchConst, Op: api.OpLti, A: 6, B: 0},
		api.Fused{At: 10, Len: 3, Kind: api.FuseBranchLocal, Op: api.OpEq, A: 4, B: 3})
}

package fold_test

import (
	"testing"

	"playpen/api"
)

// examples gives the code of the chapter's examples.
func examples(t testing.TB) []api.Instr {
	t.Helper()
	return lines(t, `0 const 2, 1 const 3, 2 mul, 3 neg, 4 const 5, 5 const 0, 6 divi, 7 const 1, 8 dup, 9 eq 4,
		10 nop, 11 const 7, 12 pop, 13 load4, 14 nop, 15 nop`)
}

// The chapter's example 1.
func TestExampleProduct(t *testing.T) {
	wantLongest(t, examples(t), 0, 16, push(0, 4, 0xFFFFFFFA))
}

// The chapter's example 2.
func TestExampleShorter(t *testing.T) {
	wantLongest(t, examples(t), 0, 3, push(0, 3, 6))
	wantLongest(t, examples(t), 0, 2, one(0))
}

// The chapter's example 3.
func TestExampleDivision(t *testing.T) {
	wantLongest(t, examples(t), 4, 16, one(4))
	wantLongest(t, examples(t), 6, 16, one(6))
}

// The chapter's example 4.
func TestExampleComparison(t *testing.T) {
	wantLongest(t, examples(t), 7, 16, goes(7, 3, 4))
	wantLongest(t, with(examples(t), 9, in(api.OpNe, 4)), 7, 16, none(7, 3))
}

// The chapter's example 5.
func TestExampleNothing(t *testing.T) {
	wantLongest(t, examples(t), 10, 16, none(10, 3))
	wantLongest(t, examples(t), 10, 12, push(10, 2, 7))
	wantLongest(t, examples(t), 14, 16, none(14, 2))
}

// The chapter's example 6.
func TestExampleRefused(t *testing.T) {
	wantRefused(t, examples(t), 3, 3, api.ErrArg)
	wantRefused(t, examples(t), 0, 17, api.ErrArg)
}

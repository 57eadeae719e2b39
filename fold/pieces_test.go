package fold_test

import (
	"slices"
	"testing"

	"playpen/api"
	"playpen/fold"
)

// P21.2, R1, R2: of a module that is none there are no pieces.
func TestNoModule(t *testing.T) {
	for what, m := range unmade(t) {
		if list, err := fold.Pieces(m); len(list) != 0 || err != api.ErrNil {
			t.Errorf("%s: %v, %d", what, list, err)
		}
	}
}

// P21.2: pieces of each kind, one behind the other.
func TestPiecesOfEachKind(t *testing.T) {
	m := module(t, `0 enter 8, 1 const 2, 2 const 3, 3 add, 4 local 4, 5 nop, 6 const 1, 7 add, 8 pop, 9 pop,
		10 const 1, 11 dup, 12 eq 13, 13 const 1, 14 dup, 15 ne 19, 16 const 4, 17 neg, 18 leave 8, 19 break`)
	wantPieces(t, "each kind", m, one(0), push(1, 3, 5), one(4), push(5, 2, 1), one(7), one(8), one(9),
		goes(10, 3, 13), none(13, 3), push(16, 2, 0xFFFFFFFC), one(18), one(19))
	wantPieces(t, "the least", module(t, "enter 4, break"), one(0), one(1))
	wantPieces(t, "words below words", module(t, "enter 4, const 9, const 1, const 2, add, mul, const 3, divi, leave 4"),
		one(0), push(1, 7, 9), one(8))
}

// P21.2: a row ends ahead of each kind of leader.
func TestPiecesEndAtLeaders(t *testing.T) {
	wantPieces(t, "no leader", module(t, "0 enter 4, 1 nop, 2 nop, 3 nop, 4 nop, 5 break"), one(0), none(1, 4), one(5))
	wantPieces(t, "a jump's target", module(t, "0 enter 4, 1 nop, 2 nop, 3 nop, 4 nop, 5 break", 3), one(0), none(1, 2), none(3, 2), one(5))
	wantPieces(t, "two of them", module(t, "0 enter 4, 1 nop, 2 nop, 3 nop, 4 nop, 5 break", 2, 4), one(0), one(1), none(2, 2), one(4), one(5))
	wantPieces(t, "a goto's operand", module(t, "0 enter 4, 1 nop, 2 nop, 3 nop, 4 nop, 5 goto 3"), one(0), none(1, 2), none(3, 2), one(5))
	wantPieces(t, "one that is not reached", module(t, "0 enter 4, 1 nop, 2 nop, 3 nop, 4 nop, 5 break, 6 goto 2"), one(0), one(1), none(2, 3), one(5), one(6))
	wantPieces(t, "a comparison's operand", module(t, "0 enter 4, 1 nop, 2 nop, 3 nop, 4 local 0, 5 const 9, 6 ltu 3, 7 break"),
		one(0), none(1, 2), one(3), one(4), one(5), one(6), one(7))
	wantPieces(t, "one that is not reached", module(t, "0 enter 4, 1 nop, 2 nop, 3 nop, 4 break, 5 gef 3, 6 break"), one(0), none(1, 2), one(3), one(4), one(5), one(6))
	wantPieces(t, "behind a call", module(t, "0 enter 4, 1 const 0, 2 nop, 3 call, 4 nop, 5 nop, 6 leave 4"), one(0), push(1, 2, 0), one(3), none(4, 2), one(6))
	wantPieces(t, "behind a comparison", module(t, "0 enter 4, 1 const 2, 2 const 1, 3 lti 1, 4 nop, 5 nop, 6 break"), one(0), none(1, 3), none(4, 2), one(6))
	wantPieces(t, "its own operand", module(t, "0 enter 4, 1 nop, 2 const 1, 3 const 1, 4 eq 2, 5 break"), one(0), one(1), goes(2, 3, 2), one(5))
	wantPieces(t, "into its own row", module(t, "0 enter 4, 1 const 1, 2 pop, 3 const 1, 4 const 1, 5 eq 3, 6 break"), one(0), none(1, 2), goes(3, 3, 3), one(6))
	wantPieces(t, "a second procedure", module(t, "0 enter 4, 1 nop, 2 nop, 3 break, 4 enter 4, 5 nop, 6 nop, 7 break"),
		one(0), none(1, 2), one(3), one(4), none(5, 2), one(7))
}

// P21.2: what is not reached is not put together, though it could be.
func TestPiecesNotReached(t *testing.T) {
	wantPieces(t, "behind a goto", module(t, "0 enter 4, 1 goto 5, 2 const 1, 3 const 2, 4 add, 5 const 0, 6 nop, 7 leave 4"),
		one(0), one(1), one(2), one(3), one(4), push(5, 2, 0), one(7))
	wantPieces(t, "a whole end", module(t, "0 enter 4, 1 nop, 2 nop, 3 break, 4 nop, 5 nop, 6 nop, 7 break"),
		one(0), none(1, 2), one(3), one(4), one(5), one(6), one(7))
	wantPieces(t, "words that are not there", module(t, "0 enter 4, 1 break, 2 add, 3 const 1, 4 const 1, 5 eq 2, 6 break"),
		one(0), one(1), one(2), one(3), one(4), one(5), one(6))
	// A jump that no target is left to reaches nothing; with a target it reaches that.
	wantPieces(t, "no target", module(t, "0 enter 4, 1 const 1, 2 jump, 3 nop, 4 nop, 5 break"), one(0), one(1), one(2), one(3), one(4), one(5))
	wantPieces(t, "a target", module(t, "0 enter 4, 1 const 1, 2 jump, 3 nop, 4 nop, 5 break", 3), one(0), one(1), one(2), none(3, 2), one(5))
	// A procedure that nobody calls is reached from its enter.
	wantPieces(t, "not called", module(t, "0 enter 4, 1 break, 2 enter 4, 3 nop, 4 nop, 5 break"), one(0), one(1), one(2), none(3, 2), one(5))
}

// P21.2: code of the most instructions: as one row, as one that never closes, as rows of two.
func TestMostInstructions(t *testing.T) {
	whole := slices.Repeat([]api.Instr{in(api.OpNop, 0)}, api.MaxInstrs)
	whole[0], whole[api.MaxInstrs-1] = in(api.OpEnter, 4), in(api.OpBreak, 0)
	wantMost(t, "one row", whole, []api.Piece{one(0), none(1, api.MaxInstrs-2), one(api.MaxInstrs - 1)})

	open := slices.Clone(whole)
	want := []api.Piece{one(0)}
	for at := uint32(1); at <= 63; at++ {
		open[at] = in(api.OpConst, at)
		want = append(want, one(at))
	}
	open[64] = in(api.OpConst, 64)
	wantMost(t, "words that stay", open, append(want, push(64, api.MaxInstrs-65, 64), one(api.MaxInstrs-1)))

	pairs := slices.Clone(whole)
	want = []api.Piece{one(0)}
	for at := uint32(1); at < api.MaxInstrs-1; at += 2 {
		pairs[at] = in(api.OpConst, at)
		pairs[at+1] = in(api.OpArg, 0)
		want = append(want, one(at), one(at+1))
	}
	wantMost(t, "no row", pairs, append(want, one(api.MaxInstrs-1)))
}

// wantMost wants Pieces of long code to answer these; the book would take too long for it.
func wantMost(t testing.TB, what string, code []api.Instr, want []api.Piece) {
	t.Helper()
	got, err := fold.Pieces(mustTake(t, api.Image{Code: code, Stack: 64}))
	if !slices.Equal(got, want) || err != api.OK {
		t.Errorf("%s: %d pieces, %d; want %d", what, len(got), err, len(want))
	}
}

// P21.2: many jumps that all may go to many targets are cut as fast as others.
func TestManyJumps(t *testing.T) {
	im := api.Image{Code: []api.Instr{in(api.OpEnter, 4)}, Stack: 64}
	for len(im.Code) < api.MaxInstrs-3 {
		im.Jumps = append(im.Jumps, uint32(len(im.Code)))
		im.Code = append(im.Code, lines(t, "const 1, neg, jump")...)
	}
	im.Code = append(im.Code, in(api.OpBreak, 0))
	list, err := fold.Pieces(mustTake(t, im))
	if err != api.OK || len(list) != 2+2*len(im.Jumps) {
		t.Fatalf("%d pieces of %d, %d", len(list), len(im.Code), err)
	}
	for i, at := range im.Jumps {
		if list[1+2*i] != push(at, 2, 0xFFFFFFFF) || list[2+2*i] != one(at+2) {
			t.Fatalf("%v, %v", list[1+2*i], list[2+2*i])
		}
	}
}

// P21.2: scattered modules; each kind comes often.
func TestScatteredModules(t *testing.T) {
	seen := map[api.PieceKind]int{}
	unreached := 0
	for round := range uint64(3000) {
		m := newDice(round+10000).someModule(t, 40)
		for _, next := range checkPieces(t, m) {
			seen[next.Kind]++
			if m.Depth(next.At) < 0 {
				unreached++
			}
		}
	}
	for kind := api.PieceOne; kind <= api.PieceNone; kind++ {
		if seen[kind] < 1000 {
			t.Errorf("kind %d was seen %d times", kind, seen[kind])
		}
	}
	if unreached < 1000 {
		t.Errorf("%d are not reached", unreached)
	}
}

package fold_test

import (
	"slices"
	"testing"

	"playpen/api"
	"playpen/flow"
	"playpen/fold"
	"playpen/run"
	"playpen/step"
	"playpen/verify"
)

// behind gives the state that a piece other than PieceOne leads to.
func behind(s api.State, next api.Piece) api.State {
	s.PC = next.At + next.Len
	switch next.Kind {
	case api.PiecePush:
		s.Ops = append(slices.Clone(s.Ops), next.Value)
	case api.PieceGoto:
		s.PC = next.Value
	}
	return s
}

// checkSteps takes as many steps as a piece has instructions, from a state at its beginning, and wants what the piece says.
func checkSteps(t testing.TB, m *verify.Module, s api.State, next api.Piece, grants []api.Grant, replies []api.Reply) {
	t.Helper()
	if !step.Fits(m, s) {
		t.Fatalf("the state at %d does not fit", s.PC)
	}
	want, got := behind(s, next), s
	for i := range next.Len {
		after, turn, err := step.Step(m, grants, got, replies)
		if err != api.OK || !turn.Took || turn.Made || after.Life != api.LifeRuns {
			t.Fatalf("%v, step %d: %+v, %d, Life %d, Fault %d", next, i, turn, err, after.Life, after.Fault)
		}
		got = after
	}
	if !sameState(got, want) {
		t.Fatalf("%v: PC %d, SP %d, Ops %x; want %d, %d, %x", next, got.PC, got.SP, got.Ops, want.PC, want.SP, want.Ops)
	}
}

// checkRun does the same with the first engine, which touches nothing on the way.
func checkRun(t testing.TB, m *verify.Module, s api.State, next api.Piece, grants []api.Grant, replies []api.Reply) {
	t.Helper()
	x, _ := run.New(m, grants)
	x.Log(true)
	if err := x.Put(s); err != api.OK {
		t.Fatalf("Put: %d", err)
	}
	want := behind(s, next)
	r, err := x.Go(int(next.Len), replies)
	// A system call that comes next would wait for a reply: then the fuel is not told.
	if err != api.OK || r.End != api.EndFuel && r.End != api.EndReply || r.Used != int(next.Len) || r.At != want.PC || len(r.Events) != 0 {
		t.Fatalf("%v: %+v, %d", next, r, err)
	}
	if !sameState(x.State(), want) || len(x.Touched()) != 0 {
		t.Fatalf("%v: another state, or something was touched", next)
	}
}

// P21.3: whatever the state is in which a piece begins, its instructions do what it says.
func TestPieceIsItsInstructions(t *testing.T) {
	seen := map[api.PieceKind]int{}
	for round := range uint64(400) {
		d := newDice(round + 20000)
		m := d.someModule(t, 40)
		for _, next := range checkPieces(t, m) {
			if next.Kind == api.PieceOne {
				continue
			}
			for range 3 {
				s, grants, replies := d.someState(m, next.At), d.someGrants(), d.someReplies()
				checkSteps(t, m, s, next, grants, replies)
				checkRun(t, m, s, next, grants, replies)
				seen[next.Kind]++
			}
		}
	}
	for kind := api.PiecePush; kind <= api.PieceNone; kind++ {
		if seen[kind] < 300 {
			t.Errorf("kind %d was taken %d times", kind, seen[kind])
		}
	}
}

// P21.3: a piece that puts on all words that may be, below which there are none or as many as may be.
func TestDeepPiece(t *testing.T) {
	m := module(t, "enter 4, const 1, "+times(63, "dup")+times(63, "add")+"leave 4")
	wantPieces(t, "all words", m, one(0), push(1, 127, 64), one(128))
	d := newDice(1)
	checkSteps(t, m, d.someState(m, 1), push(1, 127, 64), nil, nil)
	m = module(t, "enter 4, local 0, const 1, "+times(62, "dup")+times(62, "add")+"pop, pop, break")
	wantPieces(t, "all but one", m, one(0), one(1), none(2, 126), one(128), one(129))
	checkSteps(t, m, d.someState(m, 2), none(2, 126), nil, nil)
}

// P21.4: no longer row of the same stretch is closed.
func TestNoLongerPiece(t *testing.T) {
	for round := range uint64(1000) {
		m := newDice(round+30000).someModule(t, 40)
		code := m.Image().Code
		ends := blockEnds(t, m)
		list, _ := fold.Pieces(m)
		for _, next := range list {
			if m.Depth(next.At) < 0 {
				continue
			}
			for to := next.At + next.Len + 1; to <= ends[next.At]; to++ {
				if _, _, is := closedBy(code[next.At:to]); is {
					t.Fatalf("%v: the row up to %d is closed", next, to)
				}
			}
		}
	}
}

// blockEnds gives for each instruction where its block ends.
func blockEnds(t testing.TB, m *verify.Module) []uint32 {
	t.Helper()
	im := m.Image()
	blocks, _, err := flow.Blocks(im.Code, im.Jumps)
	if err != api.OK {
		t.Fatalf("Blocks: %d", err)
	}
	var ends []uint32
	for _, block := range blocks {
		for range block.End - block.Begin {
			ends = append(ends, block.End)
		}
	}
	return ends
}

// P21.5: pieces lie one behind the other from the first instruction to the last, and none over a leader.
func TestPiecesCover(t *testing.T) {
	for round := range uint64(1000) {
		m := newDice(round+40000).someModule(t, 40)
		ends := blockEnds(t, m)
		list, err := fold.Pieces(m)
		at := uint32(0)
		for _, next := range list {
			if next.At != at || next.Len == 0 || next.At+next.Len > ends[next.At] {
				t.Fatalf("%v, behind a piece that ends at %d", next, at)
			}
			at += next.Len
		}
		if int(at) != m.Count() || err != api.OK {
			t.Fatalf("%d instructions of %d, %d", at, m.Count(), err)
		}
	}
}

// P21.6: other instructions than those of the stretch change nothing, whatever they are.
func TestOnlyTheStretchCounts(t *testing.T) {
	for round := range uint64(1000) {
		d := newDice(round + 50000)
		code := d.someRow(20)
		at := uint32(d.upTo(19))
		end := at + 1 + uint32(d.upTo(19-int(at)))
		want, wantErr := fold.Longest(code, at, end)
		for range 10 {
			other := d.someRow(20 + d.upTo(5))
			if d.upTo(2) == 0 {
				spoil(other, in(api.Op(d.word()), d.word()))
			}
			copy(other[at:end], code[at:end])
			if got, err := fold.Longest(other, at, end); got != want || err != wantErr {
				t.Fatalf("Longest(%v, %d, %d): %v, %d; with others around %v, %d", code, at, end, want, wantErr, got, err)
			}
		}
		// The stretch alone says the same, at another place.
		alone, err := fold.Longest(code[at:end], 0, end-at)
		if err == api.OK {
			alone.At += at
		}
		if alone != want || err != wantErr {
			t.Fatalf("Longest(%v, %d, %d): %v, %d; alone %v, %d", code, at, end, want, wantErr, alone, err)
		}
	}
}

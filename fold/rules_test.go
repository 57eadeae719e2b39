package fold_test

import (
	"slices"
	"sync"
	"testing"

	"playpen/api"
	"playpen/fold"
)

// R3: the code stays as it is, its spare room too, whether the call is refused or not.
func TestCodeStays(t *testing.T) {
	for round := range uint64(300) {
		d := newDice(round + 60000)
		code := append(d.someRow(20), in(77, 77), in(api.OpConst, 5))[:20]
		kept := slices.Clone(code[:22])
		for at := range uint32(23) {
			for end := range uint32(23) {
				fold.Longest(code, at, end)
			}
		}
		if !slices.Equal(code[:22], kept) {
			t.Fatalf("%v became %v", kept, code[:22])
		}
	}
}

// R3: spare room of the code is no part of it.
func TestSpareRoom(t *testing.T) {
	code := lines(t, "const 1, nop, neg, pop")[:2]
	wantLongest(t, code, 0, 2, push(0, 2, 1))
	wantRefused(t, code, 0, 3, api.ErrArg)
	wantRefused(t, code, 2, 4, api.ErrArg)
}

// R3: a module stays as it is, and what was answered may be written over: no other answer, and no module, has a part in it.
func TestPiecesAreTheirOwn(t *testing.T) {
	for round := range uint64(300) {
		m := newDice(round+70000).someModule(t, 30)
		kept, digest := m.Image(), m.Digest()
		first, _ := fold.Pieces(m)
		second, _ := fold.Pieces(m)
		want := slices.Clone(second)
		spoil(first, piece(77, 77, 77, 77))
		if !slices.Equal(second, want) {
			t.Fatal("an answer has a part in another one")
		}
		if !sameImage(m.Image(), kept) || m.Digest() != digest {
			t.Fatalf("%v became %v", kept, m.Image())
		}
		checkPieces(t, m)
	}
}

// R4: what one call tells does not hang on others.
func TestCallsAgain(t *testing.T) {
	for range 3 {
		wantLongest(t, examples(t), 0, 16, push(0, 4, 0xFFFFFFFA))
		wantRefused(t, examples(t), 3, 3, api.ErrArg)
		wantRow(t, "const 1, "+times(63, "dup")+times(62, "add")+"add", push(0, 127, 64))
		wantRow(t, "dup, dup", one(0))
		wantPieces(t, "again", module(t, "enter 4, const 1, neg, leave 4"), one(0), push(1, 2, 0xFFFFFFFF), one(3))
	}
}

// R4: calls that go on side by side do not see one another, of one module too.
func TestSideBySide(t *testing.T) {
	m := newDice(80000).someModule(t, 40)
	want := checkPieces(t, m)
	var all sync.WaitGroup
	for n := range uint64(8) {
		all.Go(func() {
			d := newDice(80001 + n)
			for range 100 {
				if list, err := fold.Pieces(m); !slices.Equal(list, want) || err != api.OK {
					t.Errorf("the shared module: %v, %d", list, err)
				}
				code := d.someRow(20)
				wanted, wantErr := longestBy(code, 0, 20)
				if got, err := fold.Longest(code, 0, 20); got != wanted || err != wantErr {
					t.Errorf("%v: %v, %d", code, got, err)
				}
			}
		})
	}
	all.Wait()
}

// R1: no call panics, at whatever it is given, and each does what its promise says.
func FuzzEveryCall(f *testing.F) {
	f.Add(uint64(1), uint32(0), uint32(3), []byte{8, 2, 8, 3, 41, 0})
	f.Add(uint64(2), uint32(0), uint32(4), []byte{1, 0, 8, 7, 11, 0, 13, 3})
	f.Add(uint64(3), uint32(1<<31), uint32(1<<32-1), []byte{})
	f.Add(uint64(4), uint32(1), uint32(2), []byte{255, 255, 10, 1, 8, 0})
	f.Fuzz(func(t *testing.T, seed uint64, at, end uint32, raw []byte) {
		var code []api.Instr
		for two := range slices.Chunk(raw[:min(len(raw)/2*2, 200)], 2) {
			code = append(code, in(api.Op(two[0]), uint32(int8(two[1]))))
		}
		checkLongest(t, code, at, end)
		for from := range uint32(len(code)) {
			checkLongest(t, code, from, uint32(len(code)))
		}
		d := newDice(seed)
		row := d.someRow(40)
		checkLongest(t, row, at%41, end%42)
		m := d.someModule(t, 30)
		for _, next := range checkPieces(t, m) {
			if next.Kind != api.PieceOne {
				checkSteps(t, m, d.someState(m, next.At), next, d.someGrants(), d.someReplies())
			}
		}
	})
}

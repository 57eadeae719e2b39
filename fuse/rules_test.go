package fuse_test

import (
	"slices"
	"sync"
	"testing"

	"playpen/api"
	"playpen/fuse"
)

// R3: the code stays as it is, its spare room too, whether a call is refused or not.
func TestCodeStays(t *testing.T) {
	for round := range uint64(50) {
		d := newDice(round + 70000)
		code := append(d.someRow(16), in(77, 77), in(api.OpConst, 5))[:16]
		kept := slices.Clone(code[:18])
		for at := range uint32(19) {
			for end := range uint32(19) {
				told(code, at, end)
			}
		}
		if !slices.Equal(code[:18], kept) {
			t.Fatalf("%v became %v", kept, code[:18])
		}
	}
}

// R3: spare room of the code is no part of it.
func TestSpareRoom(t *testing.T) {
	code := lines(t, "local 4, load4, add, nop")[:2]
	wantLongest(t, code, 0, 2, thing(0, 2, api.FuseLoadLocal, api.OpLoad4, 4, 0))
	wantRefused(t, code, 0, 3, api.ErrArg)
	wantRefused(t, code, 2, 4, api.ErrArg)
	wantUnfit(t, code, 0, 3, api.FuseOpLocal)
	wantRow(t, code, 0, 3)
}

// R4: what one call tells does not hang on others.
func TestCallsAgain(t *testing.T) {
	for range 3 {
		wantLongest(t, examples(t), 0, 13, thing(0, 6, api.FuseBump, api.OpAdd, 8, 1))
		wantRefused(t, examples(t), 3, 3, api.ErrArg)
		wantRefused(t, []api.Instr{in(api.OpArg, 15)}, 0, 1, api.ErrOperand)
		wantLongest(t, lines(t, "const 1, store4"), 0, 2, thing(0, 2, api.FuseStoreConst, api.OpStore4, 1, 0))
		wantUnfit(t, lines(t, "const 1, store4"), 0, 2, api.FuseOpConst)
		wantRow(t, lines(t, "nop, nop"), 0, 2, thing(0, 2, api.FuseNone, 0, 0, 0))
	}
}

// R4: calls that go on side by side do not see one another, walks of one row too.
func TestSideBySide(t *testing.T) {
	code := newDice(80000).someRow(60)
	shared := fuse.Row(code, 0, 60)
	want := rowBy(code, 0, 60)
	var all sync.WaitGroup
	for n := range uint64(8) {
		all.Go(func() {
			d := newDice(80001 + n)
			for range 50 {
				if got := slices.Collect(shared); !slices.Equal(got, want) {
					t.Errorf("the shared row: %v, want %v", got, want)
				}
				code := d.someRow(20)
				wanted, wantErr := longestBy(code, 0, 20)
				if got, err := fuse.Longest(code, 0, 20); got != wanted || err != wantErr {
					t.Errorf("%v: %v, %d", code, got, err)
				}
			}
		})
	}
	all.Wait()
}

// R1: no call panics, at whatever it is given, and each does what its promise says.
func FuzzEveryCall(f *testing.F) {
	f.Add(uint64(1), uint32(0), uint32(3), byte(5), []byte{9, 4, 9, 4, 31, 0, 8, 1, 39, 0, 34, 0})
	f.Add(uint64(2), uint32(0), uint32(4), byte(15), []byte{1, 0, 8, 7, 11, 0, 13, 3})
	f.Add(uint64(3), uint32(1<<31), uint32(1<<32-1), byte(99), []byte{})
	f.Add(uint64(4), uint32(1), uint32(2), byte(0), []byte{255, 255, 10, 1, 8, 0})
	f.Fuzz(func(t *testing.T, seed uint64, at, end uint32, kind byte, raw []byte) {
		var code []api.Instr
		for two := range slices.Chunk(raw[:min(len(raw)/2*2, 100)], 2) {
			code = append(code, in(api.Op(two[0]), uint32(int8(two[1]))))
		}
		checkAll(t, code, at, end)
		checkFits(t, code, at, end, api.FuseKind(kind))
		for from := range uint32(len(code)) {
			checkAll(t, code, from, uint32(len(code)))
		}
		d := newDice(seed)
		checkAll(t, d.someRow(40), at%41, end%42)
		m := d.someModule(t, 8)
		image := m.Image()
		for from := range uint32(len(image.Code)) {
			next := checkLongest(t, image.Code, from, uint32(len(image.Code)))
			if m.Depth(from) >= 0 {
				checkThing(t, m, d.someState(m, from), next, d.someGrants(), d.someReplies())
			}
		}
	})
}

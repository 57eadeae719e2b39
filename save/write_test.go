package save_test

import (
	"bytes"
	"slices"
	"testing"

	"playpen/api"
	"playpen/save"
	"playpen/verify"
)

// P20.1, P20.6, P20.7: states at the edges: each Life and Fault, great words in each part, no words and as many as may be.
func TestSaveEdges(t *testing.T) {
	m := sample(t)
	for _, s := range lived(t) {
		checkBack(t, m, s)
	}
	for kind := api.FaultBreak; kind <= api.FaultSyscall; kind++ {
		s := lived(t)[3]
		s.Fault = kind
		if b := checkBack(t, m, s); b[28] != 3 || b[29] != byte(kind) {
			t.Errorf("Fault %d: %x", kind, b[28:30])
		}
	}
	done := lived(t)[2]
	for _, value := range list(0, 1, 0x80000000, 0xFFFFFFFF) {
		done.Value = value
		checkBack(t, m, done)
	}
	for count := 2; count <= 64; count++ {
		s := stands(m, 3, 128)
		for i := range uint32(count) {
			s.Ops = append(s.Ops, 0xFFFFFFFF-i*0x01030507)
		}
		if b := checkBack(t, m, s); len(b) != 48+4*count || b[30] != byte(count) || b[31] != 0 {
			t.Errorf("%d words: %d bytes, %x", count, len(b), b[30:32])
		}
	}
	if b := checkBack(t, deep(t), stands(deep(t), 65, 192, make([]uint32, 64)...)); len(b) != 48+4*64 {
		t.Errorf("a deep state: %d bytes", len(b))
	}
}

// P20.1, P20.2: runs at both ends of the data, of one byte and of all, as many as there may be, in the smallest segment and in the greatest.
func TestSaveRuns(t *testing.T) {
	for _, m := range modules(t) {
		n := m.size()
		all := make([]int, n)
		for i := range all {
			all[i] = i
		}
		odds := slices.DeleteFunc(slices.Clone(all), func(at int) bool { return at%2 == 0 })
		base := turned(m.fresh(), 1, 2, 3, n/2, n-2)
		for _, x := range []struct {
			places []int
			bytes  int // how many those of the runs are
		}{
			{nil, 0}, {[]int{0}, 9}, {[]int{n - 1}, 9}, {[]int{0, n - 1}, 18}, {[]int{0, 1}, 10}, {[]int{n - 2, n - 1}, 10}, {[]int{1, 3}, 18}, {[]int{1, 2, 3, 5}, 20},
			{all, 8 + n}, {all[1:], 7 + n}, {all[:n-1], 7 + n}, {evens(n), n / 2 * 9}, {odds, n / 2 * 9}, {all[n/2 : n-9], 8 + n/2 - 9},
		} {
			if b := checkBack(t, m, turned(m.fresh(), x.places...)); len(b) != 48+x.bytes {
				t.Errorf("%d bytes turned: %d bytes", len(x.places), len(b))
			}
			if b := checkThere(t, m, base, turned(base, x.places...)); len(b) != 48+x.bytes {
				t.Errorf("%d bytes turned, from another state: %d bytes", len(x.places), len(b))
			}
		}
	}
}

// P20.1, P20.2, P20.6, P20.7: scattered states against the book, whole and from one another.
func TestScatteredStates(t *testing.T) {
	lives := map[api.Life]int{}
	for i, m := range modules(t) {
		d := newDice(uint64(1000 + i))
		for range 40_000_000 / (m.size()*20 + 200_000) {
			from := d.someState(m)
			to := d.near(m, from)
			checkBack(t, m, from)
			checkThere(t, m, from, to)
			lives[from.Life]++
		}
	}
	for life := range api.LifeFault + 1 {
		if lives[life] < 50 {
			t.Errorf("Life %d: %d", life, lives[life])
		}
	}
}

// P20.2: where the states agree nothing is laid down, whatever the fresh data are.
func TestDeltaKnowsItsBase(t *testing.T) {
	m := asker(t)
	from := turned(stands(m, 12, m.top()-12, 7), 0, 1, 2, 100, 101)
	to := clonedState(from)
	to.Data[1] = m.image.Data[1]
	to.Data[300] = 8
	b := checkThere(t, m, from, to)
	want := []byte{7, 0, 0, 0, 1, 0, 0, 0, 1, 0, 0, 0, 'e', 0x2C, 1, 0, 0, 1, 0, 0, 0, 8}
	if !bytes.Equal(b[48:], want) {
		t.Errorf("Delta: %x, want %x", b[48:], want)
	}
}

// P20.1, P20.2, P20.6: what is refused, and nothing beside it: ErrNil ahead of ErrState, whichever of the states does not fit.
func TestSaveRefuses(t *testing.T) {
	m := sample(t)
	states := []api.State{m.fresh(), lived(t)[1]}
	for _, s := range misfits(t) {
		states = append(states, s)
	}
	for _, size := range []int{0, 1, 128, 255, 257, 512, 65536} {
		states = append(states, api.State{SP: 192, Data: make([]byte, size)})
	}
	mods := []*verify.Module{m.Module}
	for _, none := range unmade(t) {
		mods = append(mods, none)
	}
	for i, module := range mods {
		for j, from := range states {
			want := api.OK
			if i > 0 {
				want = api.ErrNil
			} else if j > 1 {
				want = api.ErrState
			}
			if b, err := save.Save(module, from); err != want || len(b) > 0 != (err == api.OK) {
				t.Errorf("module %d, state %d: Save: %x, %d, want %d", i, j, b, err, want)
			}
			if mark, err := save.Mark(module, from); err != want || err != api.OK && mark != 0 {
				t.Errorf("module %d, state %d: Mark: %d, %d, want %d", i, j, mark, err, want)
			}
			for k, to := range states {
				wantTo := want
				if wantTo == api.OK && k > 1 {
					wantTo = api.ErrState
				}
				if b, err := save.Delta(module, from, to); err != wantTo || len(b) > 0 != (err == api.OK) {
					t.Errorf("module %d, states %d, %d: Delta: %x, %d, want %d", i, j, k, b, err, wantTo)
				}
			}
		}
	}
}

// P20.1: a state of another module may not fit, and is not saved for it.
func TestSaveOfAnother(t *testing.T) {
	m, other := sample(t), shorter(t)
	s := stands(m, 1, 128)
	checkBack(t, m, s)
	if b, err := save.Save(other.Module, s); err != api.ErrState || len(b) != 0 {
		t.Errorf("Save: %x, %d", b, err)
	}
	s.SP = 132
	one, two := checkBack(t, m, s), checkBack(t, other, s)
	if bytes.Equal(one[8:16], two[8:16]) || !bytes.Equal(one[28:], two[28:]) {
		t.Errorf("%x, %x", one, two)
	}
}

// P20.6: a mark is that of the state alone, not of where its save goes on from, and differs where one byte of a whole save does.
func TestMark(t *testing.T) {
	m := sample(t)
	seen := map[uint32]int{}
	for i, s := range append(lived(t), m.fresh(), stands(m, 1, 184), stands(m, 1, 188), stands(m, 2, 188, 1), stands(m, 2, 188, 2), turned(m.fresh(), 0), turned(m.fresh(), 255)) {
		mark, err := save.Mark(m.Module, s)
		if err != api.OK || mark != markBy(m, s) {
			t.Errorf("state %d: %#x, %d", i, mark, err)
		}
		if seen[mark]++; seen[mark] > 1 {
			t.Errorf("state %d has a mark that another one has", i)
		}
		b, _ := save.Delta(m.Module, s, m.fresh())
		if head, _, _ := save.Look(b); head.Base != mark {
			t.Errorf("state %d: %#x, and as a base %#x", i, mark, head.Base)
		}
	}
}

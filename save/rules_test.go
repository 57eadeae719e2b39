package save_test

import (
	"bytes"
	"encoding/binary"
	"slices"
	"sync"
	"testing"

	"playpen/api"
	"playpen/save"
)

// P20.4, P20.5, R1, R2: of a module that is none ErrNil, 0, whatever else is wrong.
func TestNoModule(t *testing.T) {
	m := sample(t)
	right := checkBack(t, m, lived(t)[1])
	for what, none := range unmade(t) {
		for _, b := range [][]byte{nil, right, right[:47], make([]byte, 48), checkThere(t, m, m.fresh(), lived(t)[1])} {
			if s, at, err := save.Load(none, b); !isZero(s) || at != 0 || err != api.ErrNil {
				t.Errorf("%s: Load: %d, %d", what, at, err)
			}
			for _, from := range []api.State{{}, m.fresh(), {Life: 9}} {
				if s, at, err := save.Apply(none, from, b); !isZero(s) || at != 0 || err != api.ErrNil {
					t.Errorf("%s: Apply: %d, %d", what, at, err)
				}
			}
		}
	}
}

// Nothing in a list: nil and a list without elements are one thing.
func TestNothing(t *testing.T) {
	m := sample(t)
	none, empty := m.fresh(), m.fresh()
	none.Ops, empty.Ops = nil, []uint32{}
	if a, b := checkBack(t, m, none), checkBack(t, m, empty); !bytes.Equal(a, b) {
		t.Errorf("%x, %x", a, b)
	}
	if a, b := checkThere(t, m, none, empty), checkThere(t, m, empty, none); !bytes.Equal(a, b) {
		t.Errorf("%x, %x", a, b)
	}
	for _, b := range [][]byte{nil, {}} {
		wantLoad(t, "nothing", m, b, 0, api.ErrSaved)
		wantApply(t, "nothing", m, m.fresh(), b, 0, api.ErrSaved)
	}
}

// roomy gives the same list with something in its spare room.
func roomy[E any](all []E, spare ...E) []E { return append(slices.Clone(all), spare...)[:len(all)] }

// roomyState gives the same state likewise.
func roomyState(s api.State) api.State {
	s.Ops, s.Data = roomy(s.Ops, 77, 78), roomy(s.Data, 77, 78)
	return s
}

// wide gives a copy of a state with the spare room of its lists.
func wide(s api.State) api.State {
	s.Ops, s.Data = slices.Clone(s.Ops[:len(s.Ops)+2]), slices.Clone(s.Data[:len(s.Data)+2])
	return s
}

// R3: arguments stay as they are, the spare room of their lists too, whether the call is refused or not.
func TestArgumentsStay(t *testing.T) {
	for i, m := range modules(t) {
		d := newDice(uint64(4000 + i))
		for range 30 {
			from := roomyState(d.someState(m))
			to := roomyState(d.near(m, from))
			keptFrom, keptTo := wide(from), wide(to)
			b, _ := save.Save(m.Module, to)
			delta, _ := save.Delta(m.Module, from, to)
			save.Mark(m.Module, from)
			for _, file := range [][]byte{b, delta, b[:len(b)-1], sealed(append(slices.Clone(delta), 1))} {
				file = roomy(file, 77, 78)
				kept := slices.Clone(file[:len(file)+2])
				save.Load(m.Module, file)
				save.Apply(m.Module, from, file)
				save.Look(file)
				if !bytes.Equal(file[:len(file)+2], kept) {
					t.Fatal("the bytes changed")
				}
			}
			if !sameState(wide(from), keptFrom) || !sameState(wide(to), keptTo) {
				t.Fatal("a state changed")
			}
		}
	}
}

// R3: what was handed in may be written over: nothing of it is seen in what was answered. And no two answers, and no two lists of one, have a part in one another.
func TestAnswersAreTheirOwn(t *testing.T) {
	for i, m := range modules(t) {
		d := newDice(uint64(5000 + i))
		for range 30 {
			from := d.someState(m)
			to := d.near(m, from)
			for _, base := range []bool{false, true} {
				a, b := roomyState(from), roomyState(to)
				write := func() []byte {
					if base {
						file, _ := save.Delta(m.Module, a, b)
						return file
					}
					file, _ := save.Save(m.Module, b)
					return file
				}
				read := func(file []byte) api.State {
					if base {
						s, _, _ := save.Apply(m.Module, a, file)
						return s
					}
					s, _, _ := save.Load(m.Module, file)
					return s
				}
				one, other := write(), write()
				want := slices.Clone(one)
				first, second := read(one), read(one)
				for _, s := range []api.State{a, b} {
					spoil(s.Ops, 0x77777777)
					spoil(s.Data, 0x77)
				}
				if !bytes.Equal(one, want) || !sameState(first, to) {
					t.Fatal("a state that was handed in has a part in an answer")
				}
				spoil(one, 0x77)
				if !bytes.Equal(other, want) || !sameState(first, to) {
					t.Fatal("bytes have a part in another answer")
				}
				spoil(first.Ops, 0x77777777)
				if !bytes.Equal(first.Data, to.Data) {
					t.Fatal("two lists of an answer have a part in one another")
				}
				spoil(first.Data, 0x77)
				if !sameState(second, to) {
					t.Fatal("two states have a part in one another")
				}
			}
		}
	}
}

// P1: the module answers as before, whatever was saved and loaded.
func TestModuleStays(t *testing.T) {
	for _, m := range modules(t) {
		before, digest := m.Image(), m.Digest()
		s, _, _ := save.Load(m.Module, checkBack(t, m, turned(m.fresh(), 0, 5)))
		spoil(s.Data, 0x77)
		b, _ := save.Save(m.Module, m.fresh())
		spoil(b, 0x77)
		if after := m.Image(); m.Digest() != digest || !bytes.Equal(after.Data, before.Data) || !slices.Equal(after.Code, before.Code) {
			t.Errorf("%v became %v", before, after)
		}
		checkBack(t, m, m.fresh())
	}
}

// R4: calls that go on side by side do not see one another, and answer the same.
func TestSideBySide(t *testing.T) {
	m := asker(t)
	d := newDice(11)
	var states []api.State
	for range 20 {
		states = append(states, d.someState(m))
	}
	var all sync.WaitGroup
	for range 8 {
		all.Go(func() {
			for i, to := range states {
				from := states[(i+7)%len(states)]
				b, _ := save.Save(m.Module, to)
				delta, _ := save.Delta(m.Module, from, to)
				one, _, _ := save.Load(m.Module, b)
				other, _, _ := save.Apply(m.Module, from, delta)
				if !bytes.Equal(b, whole(m, to).file()) || !bytes.Equal(delta, going(m, from, to).file()) || !sameState(one, to) || !sameState(other, to) {
					t.Errorf("state %d became another one", i)
				}
			}
		})
	}
	all.Wait()
}

// R1: no call panics, at whatever it is given, and each does what its promise says.
func FuzzEveryCall(f *testing.F) {
	m := sample(f)
	from := turned(m.fresh(), 3, 4)
	f.Add(checkBack(f, m, lived(f)[1]), byte(1), uint32(3), uint32(184), uint16(2))
	f.Add(checkThere(f, m, from, turned(m.fresh(), 4, 9, 255)), byte(3), uint32(6), uint32(128), uint16(64))
	f.Add(checkThere(f, m, from, from), byte(0), uint32(0), uint32(192), uint16(0))
	f.Add(checkBack(f, asker(f), asker(f).fresh()), byte(2), uint32(4), uint32(192), uint16(65))
	f.Add(make([]byte, 48), byte(9), uint32(0xFFFFFFFF), uint32(3), uint16(65535))
	f.Add([]byte("SAV!"), byte(0), uint32(0), uint32(192), uint16(1))
	f.Fuzz(func(t *testing.T, b []byte, life byte, pc, sp uint32, words uint16) {
		checkLoad(t, m, b)
		checkApply(t, m, from, b)
		s := api.State{Life: api.Life(life), PC: pc, SP: sp, Ops: make([]uint32, words), Data: roomy(b)}
		for _, s.Data = range [][]byte{s.Data, append(roomy(b), make([]byte, 256)...)[:256]} {
			file, err := save.Save(m.Module, s)
			delta, deltaErr := save.Delta(m.Module, from, s)
			if back, backErr := save.Delta(m.Module, s, from); err != deltaErr || err != backErr || len(back) > 0 != (err == api.OK) {
				t.Fatalf("%d, %d, %d", err, deltaErr, backErr)
			}
			if err == api.OK {
				checkBack(t, m, s)
				checkThere(t, m, from, s)
				checkThere(t, m, s, from)
			} else if err != api.ErrState || len(file)+len(delta) > 0 {
				t.Fatalf("%d, %x, %x", err, file, delta)
			}
		}
		if len(b) < 48 {
			return
		}
		// With the head made right, more of what stands behind it is looked at.
		c := slices.Clone(b)
		copy(c, whole(m, s).file()[:24])
		checkLoad(t, m, sealed(c))
		binary.LittleEndian.PutUint32(c[16:], 1)
		binary.LittleEndian.PutUint32(c[20:], markBy(m, from))
		checkApply(t, m, from, sealed(c))
	})
}

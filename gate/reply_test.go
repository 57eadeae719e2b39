package gate_test

import (
	"bytes"
	"slices"
	"testing"

	"playpen/api"
	"playpen/gate"
	"playpen/mem"
)

// P16.2: up to 16 writes, each of up to 256 bytes; the value does not matter.
func TestFits(t *testing.T) {
	for _, none := range []api.Reply{{}, {Writes: []api.Write{}}, {Value: 1<<32 - 1}, reply(0, api.Write{At: 1<<32 - 1}), reply(0, write(3))} {
		if !gate.Fits(none) {
			t.Errorf("%v does not fit", none)
		}
	}
	for count := range 40 {
		for _, length := range []int{0, 1, 255, 256, 257, 258, 512} {
			r := reply(7, slices.Repeat([]api.Write{write(1<<32-1, filled(length)...)}, count)...)
			if got := gate.Fits(r); got != (count <= 16 && (length <= 256 || count == 0)) {
				t.Errorf("%d writes of %d bytes: %t", count, length, got)
			}
		}
	}
	// One that is too long, wherever it stands.
	for place := range 16 {
		writes := make([]api.Write, 16)
		if writes[place] = write(9, filled(256)...); !gate.Fits(reply(7, writes...)) {
			t.Errorf("256 bytes at %d do not fit", place)
		}
		if writes[place] = write(9, filled(257)...); gate.Fits(reply(7, writes...)) {
			t.Errorf("257 bytes at %d fit", place)
		}
	}
	if gate.Fits(reply(0, write(0, filled(1<<20)...))) || gate.Fits(api.Reply{Writes: make([]api.Write, 1<<16)}) {
		t.Error("what is far too much fits")
	}
}

// P16.6: writes that meet: the later one stays; that go round the end of the segment and of the words' range; of no bytes.
func TestApply(t *testing.T) {
	g := mustNew(t, grant(7, 2))
	for _, k := range []int{8, 9, 12, 16} {
		data := filled(1 << k)
		end := uint32(1) << k
		for _, r := range []api.Reply{
			{}, {Value: 77}, reply(0, write(9)), reply(0, api.Write{At: 9}, write(1<<32-1)),
			reply(0, write(9, 1, 2, 3, 4), write(10, 7, 8)), reply(0, write(10, 7, 8), write(9, 1, 2, 3, 4)),
			reply(0, write(9, 1), write(9, 2), write(9, 3)), reply(0, write(9, 1, 2), write(9+end, 3), write(10-end, 4)),
			reply(0, write(end-2, 1, 2, 3, 4), write(end-1, 9)), reply(0, write(end-1, 1, 2)), reply(0, write(end, 1, 2)),
			reply(0, write(1<<32-1, 1, 2)), reply(0, write(1<<32-3, 1, 2, 3, 4, 5, 6), write(0, 7)), reply(0, write(1<<31-1, 1, 2)),
			reply(0, write(0, filled(256)...)), reply(0, write(200, filled(256)...)), reply(0, write(end-100, filled(256)...), write(end-50, filled(256)...)),
			reply(0, write(1<<32-100, filled(256)...)), {Writes: slices.Repeat([]api.Write{write(3, filled(256)...)}, 16)},
			{Writes: make([]api.Write, 16)}, tooMany(), tooLong(),
		} {
			checkApply(t, g, data, r)
		}
	}
}

// P16.6: of every length, from every place near the end.
func TestApplyRound(t *testing.T) {
	g := mustNew(t)
	data := make([]byte, 256)
	for length := range 257 {
		for _, at := range []uint32{0, 1, 128, 254, 255, 256, 257, 1<<32 - 1, 1<<32 - 128} {
			checkApply(t, g, data, reply(0, write(at, filled(length)...)))
		}
	}
}

// P16.6: of a reply that does not fit nothing is stored, wherever its fault stands.
func TestApplyRefused(t *testing.T) {
	g := mustNew(t, grant(7, 2))
	m := memory(t, filled(256))
	m.Log(true)
	var replies []api.Reply
	for place := range 16 {
		writes := slices.Repeat([]api.Write{write(3, 9, 9, 9)}, 16)
		writes[place] = write(5, filled(257)...)
		replies = append(replies, reply(1, writes...))
	}
	replies = append(replies, reply(1, slices.Repeat([]api.Write{write(3, 9, 9, 9)}, 17)...), tooMany(), tooLong())
	for _, r := range replies {
		if err := g.Apply(m, r); err != api.ErrReply {
			t.Errorf("%d writes: %d", len(r.Writes), err)
		}
	}
	if got := m.Touched(); len(got) != 0 || !bytes.Equal(m.Bytes(), filled(256)) {
		t.Errorf("something was stored: %v", got)
	}
}

// P16.6: ErrNil of a gate or a memory that is nil or was not made, or of both, whether the reply fits or not.
func TestApplyNil(t *testing.T) {
	made, m := mustNew(t, grant(7, 2)), memory(t, filled(256))
	wantNil := func(what string, g *gate.Gate, m *mem.Memory) {
		t.Helper()
		for _, r := range []api.Reply{{}, reply(9, write(3, 1)), tooMany(), tooLong()} {
			if err := g.Apply(m, r); err != api.ErrNil {
				t.Errorf("%s, %d writes: %d", what, len(r.Writes), err)
			}
		}
	}
	for of, none := range unmadeMemories(t) {
		wantNil("memory: "+of, made, none)
		for what, g := range unmade(t) {
			wantNil("gate: "+what, g, m)
			wantNil("gate: "+what+", memory: "+of, g, none)
		}
	}
	if !bytes.Equal(m.Bytes(), filled(256)) {
		t.Error("something was stored")
	}
}

// P16.6: a copy of a memory by hand has the same bytes underneath: nothing is stored in them.
func TestApplyToCopyByHand(t *testing.T) {
	m := memory(t, filled(256))
	byHand := *m
	if err := mustNew(t).Apply(&byHand, reply(0, write(3, 1, 2))); err != api.ErrNil || !bytes.Equal(m.Bytes(), filled(256)) {
		t.Errorf("%d", err)
	}
}

// P16.6: one Apply behind the other goes on where the first one left the memory; the value is not stored.
func TestApplyAgain(t *testing.T) {
	g := mustNew(t)
	m := memory(t, make([]byte, 256))
	want := make([]byte, 256)
	d := newDice(3)
	for range 300 {
		r := d.someReply(256)
		applyBy(want, r)
		if err := g.Apply(m, r); err != api.OK || !bytes.Equal(m.Bytes(), want) {
			t.Fatalf("%v: %d", r, err)
		}
	}
}

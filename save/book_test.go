package save_test

import (
	"bytes"
	"encoding/binary"
	"hash/adler32"
	"slices"
	"testing"

	"playpen/api"
	"playpen/save"
	"playpen/step"
)

// This file says by hand what the chapter says: a save's bytes and what is told of bytes.

// piece is a run as it stands in a save; its length may be a wrong one.
type piece struct {
	at, length uint32
	bytes      []byte
}

// draft is a save, part by part: each may be made another one.
type draft struct {
	opening       string
	version       uint32
	module        uint64
	kind, base    uint32
	wrong         uint32 // what is added to the right sum
	life, fault   byte
	words         uint16
	pc, sp, value uint32
	count         uint32
	ops           []uint32
	pieces        []piece
	rest          []byte
}

// runsBy gives the runs in which one list differs from another.
func runsBy(from, to []byte) []piece {
	var all []piece
	for i := range to {
		switch {
		case from[i] == to[i]:
		case i > 0 && from[i-1] != to[i-1]:
			last := &all[len(all)-1]
			last.bytes = append(last.bytes, to[i])
			last.length++
		default:
			all = append(all, piece{uint32(i), 1, []byte{to[i]}})
		}
	}
	return all
}

// draftOf gives the draft of a state, whose runs lead from other data.
func draftOf(module uint64, kind, base uint32, s api.State, from []byte) draft {
	d := draft{
		opening: "\x53\x41\x56\x21", version: 1, module: module, kind: kind, base: base,
		life: byte(s.Life), fault: byte(s.Fault), words: uint16(len(s.Ops)), pc: s.PC, sp: s.SP, value: s.Value,
		ops: slices.Clone(s.Ops), pieces: runsBy(from, s.Data),
	}
	d.count = uint32(len(d.pieces))
	return d
}

// whole gives the draft of a state's whole save, going gives that of one that goes on from another state.
func whole(m made, s api.State) draft { return draftOf(m.Digest(), 0, 0, s, m.fresh().Data) }

func going(m made, from, to api.State) draft {
	return draftOf(m.Digest(), 1, markBy(m, from), to, from.Data)
}

// markBy gives a state's mark.
func markBy(m made, s api.State) uint32 { return adler32.Checksum(whole(m, s).body()) }

// body gives the bytes from 28 on.
func (d draft) body() []byte {
	le := binary.LittleEndian
	b := []byte{d.life, d.fault}
	b = le.AppendUint16(b, d.words)
	for _, x := range append(list(d.pc, d.sp, d.value, d.count), d.ops...) {
		b = le.AppendUint32(b, x)
	}
	for _, p := range d.pieces {
		b = le.AppendUint32(le.AppendUint32(b, p.at), p.length)
		b = append(b, p.bytes...)
	}
	return append(b, d.rest...)
}

// file gives all bytes.
func (d draft) file() []byte {
	le := binary.LittleEndian
	b := le.AppendUint32([]byte(d.opening), d.version)
	b = le.AppendUint64(b, d.module)
	b = le.AppendUint32(le.AppendUint32(b, d.kind), d.base)
	b = append(append(b, 0, 0, 0, 0), d.body()...)
	le.PutUint32(b[24:], adler32.Checksum(b)+d.wrong)
	return b
}

// sealed gives bytes with the sum made right.
func sealed(b []byte) []byte {
	b = slices.Clone(b)
	clear(b[24:28])
	binary.LittleEndian.PutUint32(b[24:], adler32.Checksum(b))
	return b
}

// lookBy gives what Look answers.
func lookBy(b []byte) (api.Saved, int, api.Errno) {
	le := binary.LittleEndian
	if len(b) < 48 {
		return api.Saved{}, len(b), api.ErrSaved
	}
	kind, base := le.Uint32(b[16:]), le.Uint32(b[20:])
	for _, x := range []struct {
		at    int
		wrong bool
	}{
		{0, !bytes.HasPrefix(b, []byte{0x53, 0x41, 0x56, 0x21})},
		{4, !bytes.Equal(b[4:8], []byte{1, 0, 0, 0})},
		{16, kind > 1},
		{20, kind == 0 && base != 0},
		{24, !bytes.Equal(sealed(b), b)},
	} {
		if x.wrong {
			return api.Saved{}, x.at, api.ErrSaved
		}
	}
	return api.Saved{Module: le.Uint64(b[8:]), Delta: kind == 1, Base: base, Life: api.Life(b[28]), PC: le.Uint32(b[32:])}, 0, api.OK
}

// stateBy gives the state whose save has these bytes from 28 on, if there is one: what is read is laid down again.
func stateBy(b, base []byte) (api.State, bool) {
	le := binary.LittleEndian
	s := api.State{Life: api.Life(b[28]), Fault: api.Fault(b[29]), PC: le.Uint32(b[32:]), SP: le.Uint32(b[36:]), Value: le.Uint32(b[40:]), Data: slices.Clone(base)}
	rest := b[48:]
	for range le.Uint16(b[30:]) {
		if len(rest) < 4 {
			return api.State{}, false
		}
		s.Ops = append(s.Ops, le.Uint32(rest))
		rest = rest[4:]
	}
	for range le.Uint32(b[44:]) {
		if len(rest) < 8 {
			return api.State{}, false
		}
		at, count := int64(le.Uint32(rest)), int64(le.Uint32(rest[4:]))
		rest = rest[8:]
		if count > int64(len(rest)) || at+count > int64(len(base)) {
			return api.State{}, false
		}
		copy(s.Data[at:], rest[:count])
		rest = rest[count:]
	}
	if !bytes.Equal(draftOf(0, 0, 0, s, base).body(), b[28:]) {
		return api.State{}, false
	}
	return s, true
}

// readBy gives what Load and Apply answer of bytes that go on from data with a mark.
func readBy(m made, kind, mark uint32, base, b []byte) (api.State, int, api.Errno) {
	head, at, err := lookBy(b)
	if err != api.OK {
		return api.State{}, at, err
	}
	if head.Module != m.Digest() {
		return api.State{}, 8, api.ErrForeign
	}
	if head.Delta != (kind == 1) {
		return api.State{}, 16, api.ErrBase
	}
	if head.Base != mark {
		return api.State{}, 20, api.ErrBase
	}
	s, is := stateBy(b, base)
	if !is {
		return api.State{}, 28, api.ErrSaved
	}
	if !step.Fits(m.Module, s) {
		return api.State{}, 28, api.ErrState
	}
	return s, 0, api.OK
}

// checkLook holds Look against the book.
func checkLook(t testing.TB, b []byte) {
	t.Helper()
	got, at, err := save.Look(b)
	if want, wantAt, wantErr := lookBy(b); got != want || at != wantAt || err != wantErr {
		t.Fatalf("Look(%x): %+v, %d, %d; want %+v, %d, %d", b[:min(len(b), 99)], got, at, err, want, wantAt, wantErr)
	}
}

// checkLoad holds Load against the book, and what follows of it; it gives what Load answers.
func checkLoad(t testing.TB, m made, b []byte) (api.State, int, api.Errno) {
	t.Helper()
	checkLook(t, b)
	got, at, err := save.Load(m.Module, b)
	if want, wantAt, wantErr := readBy(m, 0, 0, m.fresh().Data, b); !sameState(got, want) || at != wantAt || err != wantErr {
		t.Fatalf("Load(%x): %d, %d; want %d, %d (or a state)", b[:min(len(b), 99)], at, err, wantAt, wantErr)
	}
	if err != api.OK {
		return got, at, err
	}
	if !step.Fits(m.Module, got) {
		t.Fatalf("Load(%x): a state that does not fit", b)
	}
	if again, err := save.Save(m.Module, got); err != api.OK || !bytes.Equal(again, b) {
		t.Fatalf("Load(%x), and Save of it: %x, %d", b, again, err)
	}
	return got, at, err
}

// checkApply does the same with Apply from a state that fits.
func checkApply(t testing.TB, m made, from api.State, b []byte) (api.State, int, api.Errno) {
	t.Helper()
	got, at, err := save.Apply(m.Module, from, b)
	if want, wantAt, wantErr := readBy(m, 1, markBy(m, from), from.Data, b); !sameState(got, want) || at != wantAt || err != wantErr {
		t.Fatalf("Apply(%x): %d, %d; want %d, %d (or a state)", b[:min(len(b), 99)], at, err, wantAt, wantErr)
	}
	if err != api.OK {
		return got, at, err
	}
	if !step.Fits(m.Module, got) {
		t.Fatalf("Apply(%x): a state that does not fit", b)
	}
	if again, err := save.Delta(m.Module, from, got); err != api.OK || !bytes.Equal(again, b) {
		t.Fatalf("Apply(%x), and Delta to it: %x, %d", b, again, err)
	}
	return got, at, err
}

// checkBack saves a state that fits, and wants the book's bytes and the state back; it gives the bytes.
func checkBack(t testing.TB, m made, s api.State) []byte {
	t.Helper()
	b, err := save.Save(m.Module, s)
	if want := whole(m, s).file(); err != api.OK || !bytes.Equal(b, want) {
		t.Fatalf("Save: %x, %d; want %x", b[:min(len(b), 99)], err, want[:min(len(want), 99)])
	}
	if got, _, err := checkLoad(t, m, b); err != api.OK || !sameState(got, s) {
		t.Fatalf("Load of what was saved: %d, or another state", err)
	}
	if mark, err := save.Mark(m.Module, s); err != api.OK || mark != adler32.Checksum(b[28:]) {
		t.Fatalf("Mark: %#x, %d", mark, err)
	}
	return b
}

// checkThere does the same with a Delta between two states that fit.
func checkThere(t testing.TB, m made, from, to api.State) []byte {
	t.Helper()
	b, err := save.Delta(m.Module, from, to)
	if want := going(m, from, to).file(); err != api.OK || !bytes.Equal(b, want) {
		t.Fatalf("Delta: %x, %d; want %x", b[:min(len(b), 99)], err, want[:min(len(want), 99)])
	}
	checkLook(t, b)
	if got, _, err := checkApply(t, m, from, b); err != api.OK || !sameState(got, to) {
		t.Fatalf("Apply of a Delta: %d, or another state", err)
	}
	return b
}

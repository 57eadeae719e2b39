package save_test

import (
	"bytes"
	"encoding/binary"
	"hash/adler32"
	"slices"
	"testing"

	"playpen/api"
	"playpen/save"
)

// wantLoad wants Load to refuse bytes with a place.
func wantLoad(t testing.TB, what string, m made, b []byte, at int, err api.Errno) {
	t.Helper()
	if s, place, why := checkLoad(t, m, b); !isZero(s) || place != at || why != err {
		t.Errorf("Load, %s: %d, %d; want %d, %d", what, place, why, at, err)
	}
}

// wantApply wants Apply to refuse bytes with a place.
func wantApply(t testing.TB, what string, m made, from api.State, b []byte, at int, err api.Errno) {
	t.Helper()
	if s, place, why := checkApply(t, m, from, b); !isZero(s) || place != at || why != err {
		t.Errorf("Apply, %s: %d, %d; want %d, %d", what, place, why, at, err)
	}
}

// sumBy gives the sum of bytes that have noughts in its place.
func sumBy(b []byte) []byte { return binary.LittleEndian.AppendUint32(nil, adler32.Checksum(b)) }

// P20.1: the first example.
func TestExample1(t *testing.T) {
	m := sample(t)
	digest := binary.LittleEndian.AppendUint64(nil, m.Digest())
	ahead := slices.Concat([]byte{0x53, 0x41, 0x56, 0x21, 1, 0, 0, 0}, digest, make([]byte, 8))
	behind := []byte{0, 0, 0, 0, 0, 0, 0, 0, 0xC0, 0, 0, 0, 0, 0, 0, 0, 0, 0, 0, 0}
	want := slices.Concat(ahead, sumBy(slices.Concat(ahead, make([]byte, 4), behind)), behind)
	b, err := save.Save(m.Module, m.fresh())
	if err != api.OK || len(b) != 48 || !bytes.Equal(b, want) {
		t.Errorf("Save: %x, %d; want %x", b, err, want)
	}
	checkBack(t, m, m.fresh())
}

// P20.1: the second example.
func TestExample2(t *testing.T) {
	m := sample(t)
	s := stands(m, 3, 184, 1, 2)
	s.Data[5] = 9
	b := checkBack(t, m, s)
	if len(b) != 48+8+9 || !bytes.Equal(b[48:], []byte{1, 0, 0, 0, 2, 0, 0, 0, 5, 0, 0, 0, 1, 0, 0, 0, 9}) {
		t.Errorf("Save: %x", b)
	}
	if !bytes.Equal(b[28:48], []byte{1, 0, 2, 0, 3, 0, 0, 0, 184, 0, 0, 0, 0, 0, 0, 0, 1, 0, 0, 0}) {
		t.Errorf("Save: %x", b)
	}
}

// P20.4: the third example.
func TestExample3(t *testing.T) {
	m := sample(t)
	b := checkBack(t, m, turned(stands(m, 3, 184, 1, 2), 5))
	wantLoad(t, "47 bytes", m, b[:47], 47, api.ErrSaved)
	first, last := slices.Clone(b), slices.Clone(b)
	first[0]++
	last[len(b)-1]++
	wantLoad(t, "the first byte turned", m, first, 0, api.ErrSaved)
	wantLoad(t, "the last byte turned", m, last, 24, api.ErrSaved)
	wantLoad(t, "the save of another module", shorter(t), b, 8, api.ErrForeign)
	wantLoad(t, "a byte more", m, sealed(append(slices.Clone(b), 0)), 28, api.ErrSaved)
}

// P20.4: the fourth example.
func TestExample4(t *testing.T) {
	m := sample(t)
	save := whole(m, turned(stands(m, 3, 184, 1, 2), 5))
	save.pc = 7
	wantLoad(t, "PC that is not reached", m, save.file(), 28, api.ErrState)
	save.pc, save.count = 3, 2
	save.pieces = []piece{{5, 1, []byte{1}}, {6, 1, []byte{2}}}
	wantLoad(t, "two runs side by side", m, save.file(), 28, api.ErrSaved)
	save.count = 1
	save.pieces = []piece{{5, 1, []byte{0}}}
	wantLoad(t, "a run of the fresh data", m, save.file(), 28, api.ErrSaved)
}

// P20.5: the fifth example.
func TestExample5(t *testing.T) {
	m := sample(t)
	from, to := m.fresh(), turned(stands(m, 3, 184, 1, 2), 5)
	wantLoad(t, "a Delta", m, checkThere(t, m, from, to), 16, api.ErrBase)
	wantApply(t, "a whole save", m, from, checkBack(t, m, to), 16, api.ErrBase)
	wantApply(t, "a Delta from another state", m, to, checkThere(t, m, from, to), 20, api.ErrBase)
}

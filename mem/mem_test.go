package mem_test

import (
	"bytes"
	"math"
	"slices"
	"testing"

	"playpen/api"
	"playpen/mem"
)

// P9.1: segments of noughts, of all sizes and beyond.
func TestNew(t *testing.T) {
	for k := -3; k < 140; k++ {
		m, err := mem.New(k)
		if k < 8 || k > 16 {
			if m != nil || err != api.ErrBits {
				t.Errorf("New(%d): %v, %d", k, m, err)
			}
			continue
		}
		if m == nil || err != api.OK || m.Bits() != k || !bytes.Equal(m.Bytes(), make([]byte, 1<<k)) {
			t.Errorf("New(%d): %d, %d bits", k, err, m.Bits())
		}
	}
	for _, k := range []int{math.MinInt, math.MinInt32, math.MaxInt32, math.MaxInt, 256 + 8, 1<<16 + 8, -8} {
		if m, err := mem.New(k); m != nil || err != api.ErrBits {
			t.Errorf("New(%d): %v, %d", k, m, err)
		}
	}
}

// P9.1: segments of bytes, of every number of them.
func TestFrom(t *testing.T) {
	all := filled(1<<17 + 2)
	powers := map[int]int{256: 8, 512: 9, 1024: 10, 2048: 11, 4096: 12, 8192: 13, 16384: 14, 32768: 15, 65536: 16}
	for n := range all {
		k, ok := powers[n]
		if !ok {
			if m, err := mem.From(all[:n]); m != nil || err != api.ErrLength {
				t.Fatalf("From of %d bytes: %v, %d", n, m, err)
			}
			continue
		}
		m, err := mem.From(all[:n])
		if m == nil || err != api.OK || m.Bits() != k || !bytes.Equal(m.Bytes(), all[:n]) {
			t.Fatalf("From of %d bytes: %d, %d bits", n, err, m.Bits())
		}
	}
	if m, err := mem.From(nil); m != nil || err != api.ErrLength {
		t.Errorf("From(nil): %v, %d", m, err)
	}
}

// P9.6: a clone has the same bytes, a log that is off, and nothing else in common.
func TestClone(t *testing.T) {
	for k := 8; k <= 16; k++ {
		w := twinOf(t, filled(1<<k))
		w.turn(true)
		w.load(t, 5, 4)
		c := w.m.Clone()
		if c == nil || c == w.m || c.Bits() != k || !bytes.Equal(c.Bytes(), w.data) {
			t.Fatalf("Clone of %d bits: %d bits", k, c.Bits())
		}
		c.Store4(8, 0x01020304)
		if got := c.Touched(); len(got) != 0 {
			t.Errorf("the clone's log: %v", got)
		}
		w.store(40, 0x05060708, 4)
		if c.Load4(40) == 0x05060708 {
			t.Error("the clone sees what happens to the first one")
		}
		c.Log(true)
		c.Load1(1)
		if got := c.Touched(); !slices.Equal(got, []api.Touch{{At: 1}}) {
			t.Errorf("the clone's log: %v", got)
		}
		w.check(t)
	}
}

// P9.6: equally many bytes, each of them the same.
func TestSame(t *testing.T) {
	b := filled(512)
	m := from(t, b)
	other := from(t, b)
	other.Log(true)
	other.Load4(0)
	if !m.Same(m) || !m.Same(other) || !other.Same(m) || !m.Same(m.Clone()) {
		t.Error("segments of the same bytes are not the same")
	}
	for i := range b {
		unlike := slices.Clone(b)
		unlike[i] ^= 1 << (i % 8)
		o := from(t, unlike)
		if m.Same(o) || o.Same(m) {
			t.Fatalf("the same but for byte %d", i)
		}
	}
	for k := 8; k <= 16; k++ {
		for l := 8; l <= 16; l++ {
			one, _ := mem.New(k)
			two, _ := mem.New(l)
			if one.Same(two) != (k == l) {
				t.Errorf("noughts of %d and %d bits: %t", k, l, one.Same(two))
			}
		}
	}
}

// P9.6: asking for the bytes, a clone or a comparison touches nothing.
func TestUntouched(t *testing.T) {
	m := from(t, filled(256))
	m.Log(true)
	m.Bytes()
	m.Clone()
	m.Same(m)
	m.Bits()
	m.Read(3, 0)
	m.Write(3, nil)
	m.Copy(3, 5, 0)
	if got := m.Touched(); len(got) != 0 {
		t.Errorf("touched: %v", got)
	}
}

// P9.8: a segment that is nil or that no function made has nothing and does nothing; a wrong window is not what it is refused for.
func TestNil(t *testing.T) {
	made := from(t, filled(256))
	for what, m := range unmade(t) {
		m.Store1(0, 1)
		m.Store2(0, 1)
		m.Store4(0, 1)
		m.Log(true)
		if m.Bits() != 0 || m.Load1(0) != 0 || m.Load2(1) != 0 || m.Load4(2) != 0 {
			t.Errorf("%s: it has something", what)
		}
		for _, n := range []uint32{0, 1, 4096, 4097, 1<<32 - 1} {
			if err := m.Copy(0, 0, n); err != api.ErrNil {
				t.Errorf("%s: Copy of %d bytes: %d", what, n, err)
			}
		}
		for _, n := range []int{math.MinInt, -1, 0, 1, 4097} {
			if b, err := m.Read(0, n); len(b) != 0 || err != api.ErrNil {
				t.Errorf("%s: Read of %d bytes: %v, %d", what, n, b, err)
			}
		}
		for _, n := range []int{0, 1, 4097} {
			if err := m.Write(0, make([]byte, n)); err != api.ErrNil {
				t.Errorf("%s: Write of %d bytes: %d", what, n, err)
			}
		}
		if len(m.Bytes()) != 0 || len(m.Touched()) != 0 || m.Clone() != nil {
			t.Errorf("%s: something comes of it", what)
		}
		if m.Same(m) || m.Same(nil) || m.Same(made) || made.Same(m) {
			t.Errorf("%s: it is the same as something", what)
		}
		m.Log(false)
	}
	if made.Same(&mem.Memory{}) || !bytes.Equal(made.Bytes(), filled(256)) {
		t.Error("the one that was made is another now")
	}
}

// P9.8, R3: what is done to a copy by hand is not seen in the segment from which it was taken.
func TestCopyByHand(t *testing.T) {
	m := from(t, filled(256))
	m.Log(true)
	m.Load1(9)
	byHand := *m
	byHand.Store4(0, 0)
	byHand.Write(0, make([]byte, 9))
	byHand.Copy(0, 8, 8)
	byHand.Touched()
	byHand.Log(false)
	if !bytes.Equal(m.Bytes(), filled(256)) || !slices.Equal(m.Touched(), []api.Touch{{At: 9}}) {
		t.Error("a copy by hand is seen in the segment")
	}
}

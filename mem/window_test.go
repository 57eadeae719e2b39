package mem_test

import (
	"bytes"
	"math"
	"testing"

	"playpen/api"
	"playpen/mem"
)

// sizes of windows, at the edges of the segments and of what a window may have.
func sizes() []int {
	return []int{0, 1, 2, 3, 4, 5, 100, 255, 256, 257, 300, 511, 512, 513, 767, 768, 769, 1024, 4095, 4096}
}

// P9.4, P9.5: the document's examples.
func TestWindowExamples(t *testing.T) {
	count := make([]byte, 256)
	for i := range count {
		count[i] = byte(i)
	}
	m := from(t, count)
	if err := m.Copy(2, 0, 4); err != api.OK || !bytes.Equal(m.Bytes()[:8], []byte{0, 1, 0, 1, 2, 3, 6, 7}) {
		t.Errorf("Copy: %d, %v", err, m.Bytes()[:8])
	}
	if err := m.Copy(0, 0, 4097); err != api.ErrWindow {
		t.Errorf("Copy of 4097 bytes: %d", err)
	}
	if b, err := m.Read(0, -1); len(b) != 0 || err != api.ErrWindow {
		t.Errorf("Read of -1 bytes: %v, %d", b, err)
	}
	if m, err := mem.From(make([]byte, 300)); m != nil || err != api.ErrLength {
		t.Errorf("From of 300 bytes: %v, %d", m, err)
	}
	b := filled(300)
	if err := m.Write(0, b); err != api.OK || !bytes.Equal(m.Bytes()[:44], b[256:]) || !bytes.Equal(m.Bytes()[44:], b[44:256]) {
		t.Errorf("Write of 300 bytes: %d, %v", err, m.Bytes())
	}
}

// P9.4, P9.9: copies that go over the end, lap over what they read, and go round more than once; and what they touch.
func TestCopy(t *testing.T) {
	froms := []uint32{0, 1, 100, 250, 255, 256, 511, 4000, 65535, 65536, 0xFFFFFF00, 0xFFFFFFFE, 0xFFFFFFFF}
	for _, k := range []int{8, 9, 12, 13, 16} {
		w := twinOf(t, filled(1<<k))
		for _, from := range froms {
			for i, n := range sizes() {
				w.turn(i%3 != 0)
				for _, apart := range []uint32{0, 1, 3, 0xFFFFFFFF, 0xFFFFFFF0, 128, 1 << k, 0x80000001} {
					w.copy(t, from+apart, from, uint32(n))
				}
				w.check(t)
			}
		}
	}
}

// P9.5, P9.9: windows that are read and written at all edges, and what they touch.
func TestReadWrite(t *testing.T) {
	b := filled(4096)
	for _, k := range []int{8, 9, 12, 13, 16} {
		w := twinOf(t, filled(1<<k))
		for i, at := range addresses() {
			if i%4 != 0 && at > 5 && at < 0xFFFFFFFA {
				continue
			}
			w.turn(i%2 == 0)
			for j, n := range sizes() {
				w.read(t, at, n)
				w.write(t, at+uint32(j), b[4096-n:])
			}
			w.check(t)
		}
	}
}

// P9.10: what was written is read, where it does not go round.
func TestWrittenIsRead(t *testing.T) {
	for k := 8; k <= 16; k++ {
		m := from(t, make([]byte, 1<<k))
		for _, at := range addresses() {
			for _, n := range sizes() {
				b := filled(n)
				if n > 1<<k {
					continue
				}
				if err := m.Write(at, b); err != api.OK {
					t.Fatalf("Write(%#x): %d", at, err)
				}
				if got, err := m.Read(at, n); !bytes.Equal(got, b) || err != api.OK {
					t.Fatalf("Read(%#x, %d): %v, %d", at, n, got, err)
				}
			}
		}
	}
}

// P9.4, P9.5, R2: windows that may not be are refused, and nothing is touched or changed.
func TestWrongWindows(t *testing.T) {
	for k := 8; k <= 16; k++ {
		w := twinOf(t, filled(1<<k))
		w.turn(true)
		w.load(t, 3, 2)
		for _, n := range []uint32{4097, 4098, 65535, 65536, 1 << 31, 1<<31 + 1, 1<<32 - 4096, 1<<32 - 1} {
			if err := w.m.Copy(1, 2, n); err != api.ErrWindow {
				t.Errorf("Copy of %d bytes: %d", n, err)
			}
		}
		for _, n := range []int{-1, -2, -4096, 4097, 65536, math.MinInt32, math.MaxInt32, math.MinInt, math.MaxInt} {
			if b, err := w.m.Read(1, n); len(b) != 0 || err != api.ErrWindow {
				t.Errorf("Read of %d bytes: %d, %d", n, len(b), err)
			}
		}
		for _, n := range []int{4097, 4098, 65536, 70000} {
			if err := w.m.Write(1, make([]byte, n)); err != api.ErrWindow {
				t.Errorf("Write of %d bytes: %d", n, err)
			}
		}
		w.check(t)
	}
}

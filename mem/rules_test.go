package mem_test

import (
	"bytes"
	"slices"
	"sync"
	"testing"

	"playpen/api"
	"playpen/mem"
)

// R3: arguments stay as they are, the spare room of their lists too.
func TestArgumentsStay(t *testing.T) {
	b := filled(600)
	m := from(t, b[:256])
	m.Write(250, b[:300])
	m.Write(0, b[:4])
	m.Store4(0, 0x01020304)
	m.Copy(3, 0, 256)
	if !bytes.Equal(b, filled(600)) {
		t.Error("the bytes became others")
	}
}

// R3: no part of an argument is kept, and no answer has a part of the segment or of another answer.
func TestAnswersAreTheirOwn(t *testing.T) {
	b := filled(300)
	m := from(t, b[:256])
	m.Write(3, b[3:200])
	clear(b)
	if !bytes.Equal(m.Bytes(), filled(256)) {
		t.Error("a part of an argument was kept")
	}
	m.Log(true)
	all, clone := m.Bytes(), m.Clone()
	window, _ := m.Read(1, 7)
	touched := m.Touched()
	clear(all[:cap(all)])
	clear(window[:cap(window)])
	clear(touched[:cap(touched)])
	if !bytes.Equal(m.Bytes(), filled(256)) || !clone.Same(m) {
		t.Error("an answer is a part of the segment")
	}
	m.Load4(100)
	clear(touched[:cap(touched)])
	if got := m.Touched(); !slices.Equal(got, []api.Touch{{At: 100}, {At: 101}, {At: 102}, {At: 103}}) {
		t.Errorf("an earlier answer is a part of the log: %v", got)
	}
}

// R3: what was told of the log stays, whatever is touched later.
func TestToldStays(t *testing.T) {
	m := from(t, filled(256))
	m.Log(true)
	m.Load4(10)
	m.Load1(20)
	first := m.Touched()
	want := slices.Clone(first)
	m.Copy(30, 40, 50)
	m.Touched()
	m.Log(true)
	m.Store4(99, 1)
	m.Log(false)
	if !slices.Equal(first, want) || len(want) != 5 {
		t.Errorf("what was told became %v", first)
	}
}

// R4: segments that are used side by side do not see one another.
func TestSideBySide(t *testing.T) {
	b := filled(1024)
	words := scattered(200)
	var all sync.WaitGroup
	for n := range 8 {
		w := twinOf(t, b)
		all.Go(func() {
			w.turn(n%2 == 0)
			for i, at := range words {
				w.store(at, words[(i+n)%len(words)], 4)
				w.m.Copy(at, at+uint32(n), 9)
				w.set(at, w.get(at+uint32(n), 9))
			}
		})
		defer w.check(t)
	}
	all.Wait()
}

// walk makes one call after another, as bytes ask for them, on a segment and its twin.
func walk(t *testing.T, k int, steps []byte, at, v uint32) {
	w := twinOf(t, filled(1<<k))
	for i, step := range steps {
		if i == 200 {
			break
		}
		at = at*1664525 + uint32(step)
		v = v*22695477 + 1
		n := []int{int(step), int(v % 5000), int(v%9000) - 3000}[i%3]
		switch step % 12 {
		case 0, 1, 2:
			w.load(t, at, 1<<(step%12))
		case 3, 4, 5:
			w.store(at, v, 1<<(step%12-3))
		case 6:
			w.copy(t, at, v, uint32(n))
		case 7:
			w.read(t, at, n)
		case 8:
			w.write(t, at, filled(max(n, 0)))
		case 9:
			w.turn(v&0x10000 != 0)
		case 10:
			w.turn(true)
		case 11:
			w.check(t)
		}
	}
	clone := w.m.Clone()
	if !clone.Same(w.m) || clone.Bits() != k || w.m.Bits() != k {
		t.Fatalf("the clone of %d bits has %d", k, clone.Bits())
	}
	w.check(t)
}

// P9.2 to P9.9: long rows of calls, always the same ones, come to what the document's words say.
func TestWalks(t *testing.T) {
	words := scattered(900)
	for i := range 90 {
		var steps []byte
		for _, x := range words[i*10 : i*10+10] {
			steps = append(steps, byte(x), byte(x>>8), byte(x>>16), byte(x>>24))
		}
		walk(t, 8+i%9, steps, words[i], words[i+1])
	}
}

// R1: no call panics, at whatever it is given, and each does what its promise says.
func FuzzEveryCall(f *testing.F) {
	f.Add(8, []byte{10, 0, 1, 2, 3, 4, 5, 6, 7, 8, 11}, uint32(254), uint32(0x11223344), filled(256))
	f.Add(16, []byte{10, 8, 8, 8, 8, 6, 6, 7, 7, 11}, uint32(0xFFFFFFFF), uint32(4097), filled(300))
	f.Add(17, []byte{}, uint32(0), uint32(0), []byte{})
	f.Fuzz(func(t *testing.T, k int, steps []byte, at, v uint32, b []byte) {
		m, err := mem.New(k)
		if (m != nil) != (k >= 8 && k <= 16) || (m == nil) != (err == api.ErrBits) {
			t.Fatalf("New(%d): %d", k, err)
		}
		if m != nil {
			walk(t, k, steps, at, v)
		}
		m, err = mem.From(b)
		power := len(b) == 256 || len(b) == 512 || len(b) == 1024 || len(b) == 2048 || len(b) == 4096 ||
			len(b) == 8192 || len(b) == 16384 || len(b) == 32768 || len(b) == 65536
		if (m != nil) != power || (m == nil) != (err == api.ErrLength) || !power && len(m.Bytes()) != 0 {
			t.Fatalf("From of %d bytes: %d", len(b), err)
		}
		if power && !bytes.Equal(m.Bytes(), b) {
			t.Fatalf("From of %d bytes has others", len(b))
		}
	})
}

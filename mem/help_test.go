package mem_test

import (
	"bytes"
	"slices"
	"testing"

	"playpen/api"
	"playpen/mem"
)

// addresses lie at the edges of every size of segment and of a word, and in between.
func addresses() []uint32 {
	list := []uint32{0, 1, 2, 3, 4, 5, 100, 128, 0x12345678, 0x7FFFFFFF, 0x80000000}
	for k := 8; k <= 17; k++ {
		for less := range uint32(6) {
			list = append(list, 1<<k-less, 1<<k+less, 0xFFFF0000+1<<k-less)
		}
	}
	for less := range uint32(6) {
		list = append(list, 0xFFFFFFFF-less)
	}
	return list
}

// scattered gives so many words, always the same ones, from all over.
func scattered(count int) []uint32 {
	list := make([]uint32, count)
	state := uint64(0x9E3779B97F4A7C15)
	for i := range list {
		state ^= state << 13
		state ^= state >> 7
		state ^= state << 17
		list[i] = uint32(state * 0x2545F4914F6CDD1D >> 32)
	}
	return list
}

// filled gives so many bytes, each unlike its neighbours.
func filled(count int) []byte {
	b := make([]byte, count)
	for i := range b {
		b[i] = byte(i*7 + i>>8*13 + 1)
	}
	return b
}

// from makes a segment of bytes that a segment can have.
func from(t testing.TB, b []byte) *mem.Memory {
	t.Helper()
	m, err := mem.From(b)
	if m == nil || err != api.OK {
		t.Fatalf("From of %d bytes: %d", len(b), err)
	}
	return m
}

// unmade gives segments that are nil or that no function of the package made.
func unmade(t testing.TB) map[string]*mem.Memory {
	byHand := *from(t, filled(256))
	byHand.Log(true)
	return map[string]*mem.Memory{"nil": nil, "a zero value": new(mem.Memory), "a copy by hand": &byHand}
}

// twin is a segment as the document's words say it, byte by byte, beside the one that is tried.
type twin struct {
	m    *mem.Memory
	data []byte
	on   bool
	log  []api.Touch
}

func twinOf(t testing.TB, b []byte) *twin {
	t.Helper()
	return &twin{m: from(t, b), data: slices.Clone(b)}
}

// touch gives the number of the byte that is so far behind an address, and notes it.
func (w *twin) touch(at uint32, i int, write bool) int {
	address := (uint64(at) + uint64(i)) % (1 << 32)
	place := int(address % uint64(len(w.data)))
	if w.on && len(w.log) < 65536 {
		w.log = append(w.log, api.Touch{At: uint32(place), Write: write})
	}
	return place
}

func (w *twin) get(at uint32, count int) []byte {
	var b []byte
	for i := range count {
		b = append(b, w.data[w.touch(at, i, false)])
	}
	return b
}

func (w *twin) set(at uint32, b []byte) {
	for i, x := range b {
		w.data[w.touch(at, i, true)] = x
	}
}

// load holds a load of 1, 2 or 4 bytes against the twin.
func (w *twin) load(t testing.TB, at uint32, count int) uint32 {
	t.Helper()
	got := map[int]func(uint32) uint32{1: w.m.Load1, 2: w.m.Load2, 4: w.m.Load4}[count](at)
	want, weight := uint32(0), uint32(1)
	for _, x := range w.get(at, count) {
		want += uint32(x) * weight
		weight *= 256
	}
	if got != want {
		t.Fatalf("Load%d(%#x) of %d bytes: %#x, want %#x", count, at, len(w.data), got, want)
	}
	return got
}

// store does a store of 1, 2 or 4 bytes in both.
func (w *twin) store(at, v uint32, count int) {
	map[int]func(at, v uint32){1: w.m.Store1, 2: w.m.Store2, 4: w.m.Store4}[count](at, v)
	var b []byte
	for range count {
		b = append(b, byte(v%256))
		v /= 256
	}
	w.set(at, b)
}

func (w *twin) copy(t testing.TB, to, from, n uint32) {
	t.Helper()
	want := api.ErrWindow
	if n <= 4096 {
		want = api.OK
		w.set(to, w.get(from, int(n)))
	}
	if err := w.m.Copy(to, from, n); err != want {
		t.Fatalf("Copy(%#x, %#x, %d): %d, want %d", to, from, n, err, want)
	}
}

func (w *twin) read(t testing.TB, at uint32, n int) {
	t.Helper()
	var want []byte
	wantErr := api.ErrWindow
	if n >= 0 && n <= 4096 {
		want, wantErr = w.get(at, n), api.OK
	}
	if b, err := w.m.Read(at, n); !bytes.Equal(b, want) || err != wantErr {
		t.Fatalf("Read(%#x, %d) of %d bytes: %v, %d, want %v, %d", at, n, len(w.data), b, err, want, wantErr)
	}
}

func (w *twin) write(t testing.TB, at uint32, b []byte) {
	t.Helper()
	want := api.ErrWindow
	if len(b) <= 4096 {
		want = api.OK
		w.set(at, b)
	}
	if err := w.m.Write(at, b); err != want {
		t.Fatalf("Write(%#x, %d bytes): %d, want %d", at, len(b), err, want)
	}
}

func (w *twin) turn(on bool) {
	w.m.Log(on)
	w.on, w.log = on, nil
}

// check holds all bytes and the log against the twin; the log is taken out of both.
func (w *twin) check(t testing.TB) {
	t.Helper()
	if got := w.m.Bytes(); !bytes.Equal(got, w.data) {
		for i := range w.data {
			if i >= len(got) || got[i] != w.data[i] {
				t.Fatalf("%d bytes, want %d; the first other one is number %d", len(got), len(w.data), i)
			}
		}
		t.Fatalf("%d bytes, want %d", len(got), len(w.data))
	}
	got := w.m.Touched()
	if !slices.Equal(got, w.log) {
		t.Fatalf("%d touches, want %d: %v, want %v", len(got), len(w.log), got[:min(len(got), 20)], w.log[:min(len(w.log), 20)])
	}
	for _, x := range got {
		if int(x.At) >= len(w.data) {
			t.Fatalf("a touch at %d of %d bytes", x.At, len(w.data))
		}
	}
	w.log = nil
}

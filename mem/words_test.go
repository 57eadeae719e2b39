package mem_test

import (
	"testing"

	"playpen/mem"
)

// P9.2, P9.3: the document's first example.
func TestFirstExample(t *testing.T) {
	m, _ := mem.New(8)
	m.Store4(0xFE, 0x11223344)
	b := m.Bytes()
	if b[254] != 0x44 || b[255] != 0x33 || b[0] != 0x22 || b[1] != 0x11 {
		t.Errorf("the bytes are %x %x %x %x", b[254], b[255], b[0], b[1])
	}
	if m.Load4(0x1FE) != 0x11223344 || m.Load2(255) != 0x2233 || m.Load1(0xFFFFFFFF) != 0x33 {
		t.Errorf("the loads are %x %x %x", m.Load4(0x1FE), m.Load2(255), m.Load1(0xFFFFFFFF))
	}
}

// P9.2: loads at all edges of all sizes of segment, and what they touch.
func TestLoads(t *testing.T) {
	for k := 8; k <= 16; k++ {
		w := twinOf(t, filled(1<<k))
		w.turn(true)
		for _, at := range addresses() {
			for _, count := range []int{1, 2, 4} {
				w.load(t, at, count)
			}
		}
		w.check(t)
	}
}

// P9.3, P9.9: stores at all edges lay down the lowest bytes and nothing else, and what they touch.
func TestStores(t *testing.T) {
	words := append(scattered(40), 0, 0xFFFFFFFF, 0x80, 0xFF, 0x100, 0xFFFF, 0x10000, 0x80000000)
	for k := 8; k <= 16; k += 2 {
		w := twinOf(t, filled(1<<k))
		for i, at := range addresses() {
			w.turn(i%2 == 0)
			for _, count := range []int{1, 2, 4} {
				w.store(at, words[i%len(words)], count)
				w.check(t)
			}
		}
	}
}

// P9.10: what was stored is loaded, and a word is made of its parts.
func TestStoredIsLoaded(t *testing.T) {
	words := append(scattered(60), 0, 0xFFFFFFFF, 0x01020304)
	for k := 8; k <= 16; k++ {
		m := from(t, filled(1<<k))
		for i, at := range addresses() {
			v := words[i%len(words)]
			m.Store4(at, v)
			if got := m.Load4(at); got != v {
				t.Fatalf("Load4(%#x): %#x, want %#x", at, got, v)
			}
			if m.Load4(at) != m.Load2(at)+1<<16*m.Load2(at+2) || m.Load2(at) != m.Load1(at)+1<<8*m.Load1(at+1) {
				t.Fatalf("at %#x: %#x, %#x, %#x", at, m.Load4(at), m.Load2(at), m.Load1(at))
			}
			m.Store2(at+1, ^v)
			m.Store1(at+2, v)
			if m.Load1(at+2) != v%256 || m.Load2(at+1) != ^v%256+v%256*256 {
				t.Fatalf("at %#x: %#x, %#x", at, m.Load1(at+2), m.Load2(at+1))
			}
			m.Store2(at, v)
			if m.Load2(at) != v%65536 {
				t.Fatalf("Load2(%#x): %#x, want %#x", at, m.Load2(at), v%65536)
			}
		}
	}
}

package isa_test

import (
	"slices"
	"testing"

	"playpen/api"
	"playpen/isa"
)

// P7.7: the chapter's example, and walks that go through nothing.
func TestWalkExamples(t *testing.T) {
	if got := walked([]byte{1, 10, 8}); !slices.Equal(got, []spot{{0, api.Instr{Op: api.OpNop}}, {1, api.Instr{Op: api.OpPop}}}) {
		t.Errorf("Walk: %v", got)
	}
	for _, b := range [][]byte{nil, {}, {0}, {60, 1}, {8, 1, 2, 3}, {12, 15}} {
		if got := walked(b); len(got) != 0 {
			t.Errorf("Walk(%x): %v", b, got)
		}
	}
}

// P7.7: a walk may be left early, at every place, and be gone through again from the front.
func TestWalkLeft(t *testing.T) {
	b, _, _ := isa.Encode(wellFormed(rows(), scattered(20)))
	want := walked(b)
	walk := isa.Walk(b)
	for leave := 1; leave <= len(want); leave++ {
		var got []spot
		for at, in := range walk {
			got = append(got, spot{at, in})
			if len(got) == leave {
				break
			}
		}
		if !slices.Equal(got, want[:leave]) {
			t.Fatalf("left after %d: %v", leave, got)
		}
	}
}

// P7.7: a walk within the same walk.
func TestWalkWithin(t *testing.T) {
	walk := isa.Walk([]byte{1, 10, 1, 10})
	count := 0
	for range walk {
		for range walk {
			count++
		}
	}
	if count != 16 {
		t.Errorf("%d turns", count)
	}
}

// P7.7, R3: a walk tells what the bytes held when Walk was called, though they are written over ahead of it and during it.
func TestWalkKeepsItsOwn(t *testing.T) {
	b, _, _ := isa.Encode(wellFormed(rows(), scattered(30)))
	want := walked(b)
	walk := isa.Walk(b)
	b[0] = 0
	var got []spot
	for at, in := range walk {
		got = append(got, spot{at, in})
		clear(b)
	}
	if !slices.Equal(got, want) {
		t.Errorf("Walk: %v, want %v", got, want)
	}
}

// P7.7: more bytes than the most instructions have are not gone through.
func TestWalkMost(t *testing.T) {
	long := slices.Repeat([]byte{8, 1, 2, 3, 4}, api.MaxInstrs+5)
	count, last := 0, 0
	for at := range isa.Walk(long) {
		count, last = count+1, at
	}
	if count != api.MaxInstrs || last != 5*(api.MaxInstrs-1) {
		t.Errorf("%d instructions, the last at %d", count, last)
	}
}

package procs_test

import (
	"iter"
	"slices"
	"testing"

	"playpen/api"
	"playpen/procs"
)

// mustFind gives the Procs of what has no fault.
func mustFind(t *testing.T, g given) *procs.Procs {
	t.Helper()
	p, at, err := procs.Find(g.code, g.jumps, g.names)
	if p == nil || at != 0 || err != api.OK {
		t.Fatalf("Find(%v): %d, %d", g, at, err)
	}
	return p
}

// The chapter's example 1.
func TestExampleTells(t *testing.T) {
	p := mustFind(t, sample())
	if p.Count() != 2 {
		t.Errorf("Count: %d", p.Count())
	}
	if proc, is := p.Proc(1); proc != (api.Proc{Begin: 3, End: 8, Frame: 4, Need: 0}) || !is {
		t.Errorf("Proc(1): %v, %t", proc, is)
	}
	if p.Of(2) != 0 || p.Of(8) != -1 || !p.Begins(3) {
		t.Errorf("%d, %d, %t", p.Of(2), p.Of(8), p.Begins(3))
	}
	if !p.Legal(5, 6) || p.Legal(1, 6) || p.Legal(5, 5) {
		t.Errorf("%t, %t, %t", p.Legal(5, 6), p.Legal(1, 6), p.Legal(5, 5))
	}
	if one, none := p.Targets(1), p.Targets(0); !slices.Equal(one, []uint32{4, 6}) || len(none) != 0 {
		t.Errorf("%v, %v", one, none)
	}
	check(t, sample())
}

// P13.2: at the bounds of procedures, of the code, and beyond.
func TestBounds(t *testing.T) {
	p := mustFind(t, sample())
	for index, want := range []int{0, 0, 0, 1, 1, 1, 1, 1, -1, -1} {
		if got := p.Of(uint32(index)); got != want {
			t.Errorf("Of(%d): %d", index, got)
		}
		if got := p.Begins(uint32(index)); got != (index == 0 || index == 3) {
			t.Errorf("Begins(%d): %t", index, got)
		}
	}
	for _, index := range []uint32{1 << 16, 1<<16 + 3, 1 << 31, 1<<31 + 3, 1<<32 - 1} {
		if p.Of(index) != -1 || p.Begins(index) || p.Legal(index, 4) || p.Legal(4, index) || p.Legal(index, index) {
			t.Errorf("an instruction %d", index)
		}
	}
	if proc, is := p.Proc(0); proc != (api.Proc{Begin: 0, End: 3, Frame: 8}) || !is {
		t.Errorf("Proc(0): %v, %t", proc, is)
	}
	for _, i := range []int{-1, 2, -1 << 31, 1 << 31} {
		if proc, is := p.Proc(i); proc != (api.Proc{}) || is || len(p.Targets(i)) != 0 {
			t.Errorf("Proc(%d): %v, %t, %v", i, proc, is, p.Targets(i))
		}
	}
}

// P13.3: a jump may go from each instruction of a procedure, the enter too, to the jumps in it alone.
func TestLegal(t *testing.T) {
	p := mustFind(t, sample().jumping(1, 2, 7))
	for from := range uint32(10) {
		for to := range uint32(10) {
			want := from < 3 && (to == 1 || to == 2) || from >= 3 && from < 8 && to == 7
			if p.Legal(from, to) != want {
				t.Errorf("Legal(%d, %d): %t", from, to, !want)
			}
		}
	}
	if !slices.Equal(p.Targets(0), []uint32{1, 2}) || !slices.Equal(p.Targets(1), []uint32{7}) {
		t.Errorf("%v, %v", p.Targets(0), p.Targets(1))
	}
}

// P13.3: targets that lie at the edges of a set's words, in procedures that begin and end there.
func TestTargetsFarApart(t *testing.T) {
	nop := in(api.OpNop, 0)
	for _, lengths := range [][]int{{62, 62, 62}, {61, 62, 63, 64, 65}, {2, 126, 2, 30, 254}, {3, 3, 3}, {200, 0, 0, 200}} {
		var g given
		for _, length := range lengths {
			g.code = append(g.code, repeated(length, nop)...)
		}
		check(t, g)
		for i, one := range g.code {
			if one.Op != api.OpEnter {
				check(t, g.jumping(uint32(i)))
				g.jumps = append(g.jumps, uint32(i))
			}
		}
		check(t, g)
	}
}

// P13.4: All may be left early and be gone through again, also one within the other.
func TestAll(t *testing.T) {
	g := given{code: slices.Repeat([]api.Instr{in(api.OpEnter, 4), in(api.OpNop, 0), in(api.OpBreak, 0)}, 4)}
	p := mustFind(t, g)
	all := p.All()
	for stop := range 4 {
		var got []int
		for i, proc := range all {
			if proc != (api.Proc{Begin: uint32(3 * i), End: uint32(3*i + 3), Frame: 4}) {
				t.Errorf("%d: %v", i, proc)
			}
			got = append(got, i)
			if i == stop {
				break
			}
		}
		if !slices.Equal(got, []int{0, 1, 2, 3}[:stop+1]) {
			t.Errorf("left at %d: %v", stop, got)
		}
	}
	var pairs [][2]int
	for i := range all {
		for j := range all {
			if j > i {
				break
			}
			pairs = append(pairs, [2]int{i, j})
		}
	}
	if !slices.Equal(pairs, [][2]int{{0, 0}, {1, 0}, {1, 1}, {2, 0}, {2, 1}, {2, 2}, {3, 0}, {3, 1}, {3, 2}, {3, 3}}) {
		t.Errorf("one within the other: %v", pairs)
	}
}

// P13.4: two walks that are gone through by turns.
func TestAllByTurns(t *testing.T) {
	p := mustFind(t, sample())
	first, stopFirst := iter.Pull2(p.All())
	second, stopSecond := iter.Pull2(p.All())
	defer stopSecond()
	if i, proc, is := first(); i != 0 || proc.End != 3 || !is {
		t.Errorf("the first: %d, %v, %t", i, proc, is)
	}
	stopFirst()
	for want := range 2 {
		if i, _, is := second(); i != want || !is {
			t.Errorf("the second: %d, %t", i, is)
		}
	}
	if _, _, is := second(); is {
		t.Error("there is a third procedure")
	}
}

// checkNothing wants Procs that were not made to tell nothing.
func checkNothing(t *testing.T, what string, p *procs.Procs) {
	t.Helper()
	for _, i := range []int{-1, 0, 1, 2} {
		if proc, is := p.Proc(i); proc != (api.Proc{}) || is || len(p.Targets(i)) != 0 {
			t.Errorf("%s: procedure %d: %v, %t", what, i, proc, is)
		}
	}
	for index := range uint32(10) {
		if p.Of(index) != -1 || p.Begins(index) || p.Legal(5, index) || p.Legal(index, index) {
			t.Errorf("%s: instruction %d", what, index)
		}
	}
	if p.Count() != 0 || p.All() == nil {
		t.Errorf("%s: %d procedures", what, p.Count())
	}
	for i, proc := range p.All() {
		t.Errorf("%s: All: %d, %v", what, i, proc)
	}
}

// P13.6: Procs that are nil or that Find did not make, a copy by hand too.
func TestProcsNotMade(t *testing.T) {
	checkNothing(t, "nil", nil)
	checkNothing(t, "a zero one", &procs.Procs{})
	checkNothing(t, "a new one", new(procs.Procs))
	made := mustFind(t, sample())
	byHand := *made
	checkNothing(t, "a copy by hand", &byHand)
	if made.Count() != 2 || !made.Legal(5, 6) {
		t.Error("the Procs that were copied became others")
	}
}

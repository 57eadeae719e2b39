package procs_test

import (
	"slices"
	"sync"
	"testing"

	"playpen/api"
	"playpen/procs"
)

// roomy gives the same with something in the spare room of each list.
func (g given) roomy() given {
	g = g.cloned()
	g.code = append(g.code, in(77, 77))[:len(g.code)]
	g.jumps = append(g.jumps, 77)[:len(g.jumps)]
	g.names = append(g.names, api.Export{Name: "spare", At: 77})[:len(g.names)]
	return g
}

// unfolded gives the same with one element more in each list, out of the spare room.
func (g given) unfolded() given {
	return given{g.code[:len(g.code)+1], g.jumps[:len(g.jumps)+1], g.names[:len(g.names)+1]}
}

func sameGiven(x, y given) bool {
	return slices.Equal(x.code, y.code) && slices.Equal(x.jumps, y.jumps) && slices.Equal(x.names, y.names)
}

// R3: arguments stay as they are, the spare room of their lists too, whatever the call answers.
func TestArgumentsStay(t *testing.T) {
	for i, start := range []given{
		sample(), sample().jumping(6, 4), sample().named(4), sample().with(2, in(api.OpLeave, 4)), sample().with(6, in(0, 0)), {},
	} {
		g := start.roomy()
		kept := g.unfolded().cloned()
		p, _, _ := procs.Find(g.code, g.jumps, g.names)
		p.Targets(1)
		for range p.All() {
			p.Legal(5, 6)
		}
		if !sameGiven(g.unfolded(), kept) {
			t.Errorf("%d became %v", i, g.unfolded())
		}
	}
}

// R3: no part of an argument is kept.
func TestNothingIsKept(t *testing.T) {
	g := sample()
	p := mustFind(t, g)
	clear(g.code)
	clear(g.jumps)
	clear(g.names)
	list, _ := findBy(sample())
	checkProcs(t, sample(), p, list)
}

// R3: what is answered is memory of its own, spare room too.
func TestAnswersAreTheirOwn(t *testing.T) {
	g := given{code: repeated(20, in(api.OpNop, 0)), jumps: []uint32{1, 2, 3, 5, 8, 13}}
	p := mustFind(t, g)
	one, other := p.Targets(0), p.Targets(0)
	clear(one[:cap(one)])
	if !slices.Equal(other, g.jumps) || !slices.Equal(p.Targets(0), g.jumps) {
		t.Errorf("%v, %v", other, p.Targets(0))
	}
	_ = append(other[:2], 99)
	if !slices.Equal(p.Targets(0), g.jumps) {
		t.Errorf("%v", p.Targets(0))
	}
	for i, proc := range p.All() {
		proc.Begin, proc.Frame = 7, 7
		if again, _ := p.Proc(i); again != (api.Proc{Begin: 0, End: 22, Frame: 4}) {
			t.Errorf("%v", again)
		}
	}
	mine, yours := newSet(t, 70, 5, 69), newSet(t, 70, 5, 69)
	mine.Drop(5)
	if !yours.Has(5) || yours.Len() != 2 {
		t.Error("two sets are one")
	}
}

// R2: a call that is refused leaves its set as it was.
func TestRefusedChangesNothing(t *testing.T) {
	s := newSet(t, 65, 0, 63, 64)
	for _, x := range []int{-1, 65, 66, 127, 128, 1 << 20, 1 << 40} {
		if s.Add(x) || s.Drop(x) {
			t.Errorf("%d changed the set", x)
		}
	}
	s.Add(64)
	s.Drop(62)
	if all := collected(t, s.All()); !slices.Equal(all, []int{0, 63, 64}) || s.Len() != 3 {
		t.Errorf("%v, %d", all, s.Len())
	}
}

// Nothing in a list: nil and a list without elements are one thing.
func TestEmptyLists(t *testing.T) {
	g := sample()
	for _, jumps := range [][]uint32{nil, {}} {
		for _, names := range [][]api.Export{nil, {}} {
			check(t, given{g.code, jumps, names})
			check(t, given{nil, jumps, names})
			check(t, given{[]api.Instr{}, jumps, names})
		}
	}
}

// R4: calls that go on side by side do not see one another; Procs may be asked by several at a time.
func TestSideBySide(t *testing.T) {
	list, _ := findBy(sample())
	shared := mustFind(t, sample())
	var all sync.WaitGroup
	for n := range 8 {
		all.Go(func() {
			d := &dice{words: scattered(9973), next: n * 1000}
			for range 50 {
				g := someGiven(d)
				want, _ := findBy(g)
				p, _, err := procs.Find(g.code, g.jumps, g.names)
				if err != api.OK || p.Count() != len(want) {
					t.Errorf("%v: %d", g, err)
				}
				for i, proc := range shared.All() {
					if proc != list[i] || shared.Of(proc.Begin) != i || len(shared.Targets(i)) != 2*i {
						t.Errorf("the shared ones: %d, %v", i, proc)
					}
				}
			}
		})
	}
	all.Wait()
}

// R1: no call panics, at whatever it is given, and each does what its promise says.
func FuzzEveryCall(f *testing.F) {
	f.Add(uint16(1), byte(0), byte(1), uint32(0), uint32(4), 10, []byte{0, 1, 2, 3, 4, 5, 6, 7})
	f.Add(uint16(500), byte(1), byte(3), uint32(6), uint32(1), 64, []byte{0x80, 0, 0, 0x50, 0x11, 0x22, 0x33, 0x44})
	f.Add(uint16(77), byte(2), byte(6), uint32(16384), uint32(1<<32-1), -1, []byte{})
	f.Add(uint16(900), byte(9), byte(60), uint32(2), uint32(1<<31), 1<<20, []byte{0xff, 0xff, 0xff, 0xff})
	f.Fuzz(func(t *testing.T, seed uint16, strays byte, op byte, at uint32, arg uint32, bound int, steps []byte) {
		d := &dice{words: scattered(997), next: int(seed) % 997}
		g := someGiven(d)
		for range strays % 5 {
			if len(g.code) > 0 {
				layStray(d, &g)
			}
		}
		check(t, g)
		if len(g.code) > 0 {
			check(t, g.with(int(at)%len(g.code), in(api.Op(op), arg)))
		}
		check(t, g.jumping(append(slices.Clone(g.jumps), at, arg)...))
		check(t, g.named(at, arg))
		if s, err := procs.NewSet[int](bound); (s == nil) != (bound < 0 || bound > 1<<20) || (s == nil) != (err == api.ErrArg) {
			t.Fatalf("NewSet(%d): %d", bound, err)
		}
		var words []uint32
		for four := range slices.Chunk(steps[:min(len(steps)/4*4, 800)], 4) {
			words = append(words, uint32(four[0])<<24|uint32(four[1])<<16|uint32(four[2])<<8|uint32(four[3]))
		}
		sizes := [3]int{int(at % 200), int(arg % 300), 64}
		walk[number](t, words, sizes)
		walk[index](t, words, sizes)
	})
}

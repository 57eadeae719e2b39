package flow_test

import (
	"slices"
	"sync"
	"testing"

	"playpen/api"
	"playpen/flow"
)

// roomy gives the same with something in the spare room of each list.
func (g given) roomy() given {
	g = g.cloned()
	g.code = append(g.code, in(77, 77), in(78, 78))[:len(g.code)]
	g.jumps = append(g.jumps, 77, 78)[:len(g.jumps)]
	return g
}

// unfolded gives the same with two elements more in each list, out of the spare room.
func (g given) unfolded() given {
	return given{g.code[:len(g.code)+2], g.jumps[:len(g.jumps)+2]}
}

func sameGiven(x, y given) bool {
	return slices.Equal(x.code, y.code) && slices.Equal(x.jumps, y.jumps)
}

// everyCall makes all calls, with the walk of Ways.
func everyCall(g given) {
	flow.Depths(g.code, g.jumps)
	flow.Blocks(g.code, g.jumps)
	flow.Heads(g.code, g.jumps)
	for at := range uint32(len(g.code) + 2) {
		flow.Next(g.code, g.jumps, at)
	}
	for range flow.Ways(g.code, g.jumps) {
	}
}

// R3: arguments stay as they are, the spare room of their lists too, whatever the calls answer.
func TestArgumentsStay(t *testing.T) {
	starts := []given{
		mixed(t), mixed(t).with(1, in(api.OpPop, 0)), mixed(t).with(9, in(api.OpLeave, 8)), mixed(t).jumping(6, 1), {}, crowded(t, 50, "break"),
	}
	d := &dice{words: scattered(9973)}
	for range 50 {
		starts = append(starts, someGiven(d, 20))
	}
	for i, start := range starts {
		g := start.roomy()
		kept := g.unfolded().cloned()
		everyCall(g)
		if !sameGiven(g.unfolded(), kept) {
			t.Errorf("%d became %v", i, g.unfolded())
		}
	}
}

// spoil writes over all of a list, its spare room too.
func spoil[E any](list []E, with E) {
	list = list[:cap(list)]
	for i := range list {
		list[i] = with
	}
}

// R3: what is answered is memory of its own, spare room too: neither the arguments nor other answers have a part in it.
func TestAnswersAreTheirOwn(t *testing.T) {
	d := &dice{words: scattered(9973), next: 11}
	list := []given{mixed(t), crowded(t, 30, "const 1, jump, break"), from(t, "0 enter 4, 1 const 1, 2 jump, 3 break", 3)}
	for range 50 {
		list = append(list, someGiven(d, 20))
	}
	for _, g := range list {
		kept := g.cloned()
		first := asked(g)
		spoil(first.depths, 77)
		if first.needs[0] == 77 {
			t.Fatalf("%v: the needs are a part of the depths", g)
		}
		spoil(first.needs, 88)
		if slices.Contains(first.depths, 88) {
			t.Fatalf("%v: the depths are a part of the needs", g)
		}
		heads, _, _ := flow.Heads(g.code, g.jumps)
		spoil(heads, 77)
		for at := range uint32(len(g.code)) {
			next, _ := flow.Next(g.code, g.jumps, at)
			spoil(next, 77)
		}
		if !sameGiven(g, kept) {
			t.Fatalf("%v became %v", kept, g)
		}
		check(t, g)
	}
}

// R3: the lists of one answer have no part in one another.
func TestListsOfOneAnswer(t *testing.T) {
	d := &dice{words: scattered(9973), next: 12}
	list := []given{mixed(t), crowded(t, 30, "const 1, jump, break")}
	for range 50 {
		list = append(list, someGiven(d, 20))
	}
	for _, g := range list {
		kept := g.cloned()
		blocks, _, _ := flow.Blocks(g.code, g.jumps)
		want := blocksBy(g, depthsBy(g).depths)
		for b := range blocks {
			if !slices.EqualFunc(blocks[b:], want[b:], sameBlock) {
				t.Fatalf("%v: block %d has a part in an earlier one: %v", g, b, blocks[b:])
			}
			spoil(blocks[b].Next, 77)
		}
		spoil(blocks, api.Block{Begin: 77})
		if !sameGiven(g, kept) {
			t.Fatalf("%v became %v", kept, g)
		}
		check(t, g)
	}
}

// Nothing in a list: nil and a list without elements are one thing.
func TestEmptyLists(t *testing.T) {
	for _, jumps := range [][]uint32{nil, {}} {
		check(t, given{lines(t, "enter 4, const 1, jump, break"), jumps})
		check(t, given{nil, jumps})
		check(t, given{[]api.Instr{}, jumps})
	}
}

// R4: what one call tells does not hang on others, of other code too.
func TestCallsAgain(t *testing.T) {
	for range 3 {
		check(t, mixed(t))
		check(t, mixed(t).jumping())
		check(t, mixed(t).with(1, in(api.OpPop, 0)))
		check(t, given{})
	}
}

// R4: calls that go on side by side do not see one another; one iterator may be gone through by several at a time.
func TestSideBySide(t *testing.T) {
	g := mixed(t)
	shared := flow.Ways(g.code, g.jumps)
	var all sync.WaitGroup
	for n := range 8 {
		all.Go(func() {
			d := &dice{words: scattered(9973), next: n * 1000}
			for range 20 {
				one := someGiven(d, 15)
				if got, want := asked(one), depthsBy(one); !sameTold(got, want) {
					t.Errorf("%v: %v", one, got)
				}
				if got, want := asked(g), depthsBy(g); !sameTold(got, want) {
					t.Errorf("the shared code: %v", got)
				}
				i := 0
				for from, to := range shared {
					if (pair{from, to}) != mixedWays()[i] {
						t.Errorf("the shared walk, %d: %d, %d", i, from, to)
					}
					i++
				}
			}
		})
	}
	all.Wait()
}

// R1: no call panics, at whatever it is given, and each does what its promise says.
func FuzzEveryCall(f *testing.F) {
	f.Add(uint16(1), byte(0), byte(1), uint32(0), uint32(4), []byte{3, 4, 8, 1, 4, 4})
	f.Add(uint16(500), byte(1), byte(3), uint32(6), uint32(1), []byte{3, 4, 8, 0, 8, 0, 13, 1, 7, 0, 2, 0})
	f.Add(uint16(77), byte(2), byte(6), uint32(16384), uint32(1<<32-1), []byte{})
	f.Add(uint16(900), byte(9), byte(60), uint32(2), uint32(1<<31), []byte{3, 4, 8, 1, 11, 0, 6, 2})
	f.Fuzz(func(t *testing.T, seed uint16, strays byte, op byte, at uint32, arg uint32, raw []byte) {
		d := &dice{words: scattered(997), next: int(seed) % 997}
		g := someGiven(d, 16)
		if check(t, g) != api.OK {
			t.Fatalf("%v has a fault", g)
		}
		for range strays % 5 {
			if len(g.code) > 0 {
				layStray(d, &g)
			}
		}
		check(t, g)
		if len(g.code) > 0 {
			check(t, g.with(int(at)%len(g.code), in(api.Op(op), arg)))
		}
		check(t, g.jumping(append(slices.Clone(g.jumps), at, arg)...))
		var own given
		for two := range slices.Chunk(raw[:min(len(raw)/2*2, 80)], 2) {
			own.code = append(own.code, in(api.Op(two[0]), uint32(two[1])))
			if two[1] >= 128 {
				own.jumps = append(own.jumps, uint32(len(own.code)-1))
				own.code[len(own.code)-1].Arg -= 128
			}
		}
		check(t, own)
	})
}

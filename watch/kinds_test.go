package watch_test

import (
	"strings"
	"testing"

	"playpen/api"
	"playpen/watch"
)

// wantMet wants a run with a point alone to stop behind so many instructions each time, and then to come to its end.
func wantMet(t testing.TB, x *watch.Watch, p api.Point, given []api.Reply, counts ...int) {
	t.Helper()
	number, err := x.Add(p)
	wantOK(t, err)
	for i, count := range counts {
		got, err := x.Go(1000, given)
		if err != api.OK || got.Kind != api.StopPoint || got.Point != number || got.Result.Used != count {
			t.Fatalf("%+v, stop %d: %+v, %d; want Used %d", p, i, got, err, count)
		}
		given = given[got.Result.Replies:]
	}
	if got, err := x.Go(1000, given); err != api.OK || got.Kind != api.StopEnd || got.Point != 0 || got.Result.End == api.EndFuel {
		t.Fatalf("%+v, behind %d stops: %+v, %d", p, len(counts), got, err)
	}
}

// PointAt: behind the instruction that leads there, however it does; not where the run begins, ends or meets a fault.
func TestPointAt(t *testing.T) {
	m := sample(t)
	met := map[uint32][]int{0: nil, 1: {1}, 2: {2}, 3: {3}, 4: {4}, 5: {9}, 6: {5}, 7: {6}, 8: {7}, 9: {8}}
	for at, counts := range met {
		wantMet(t, begun(t, m, 0, nil), point(api.PointAt, at), nil, counts...)
	}
	// A goto to itself, a jump, a comparison that holds and one that does not.
	round := module(t, 128, "0 enter 4, 1 goto 1, 2 const 3, 3 leave 4")
	x := begun(t, round, 0, nil)
	wantAdd(t, x, point(api.PointAt, 1), 0)
	for range 5 {
		wantGo(t, x, 9, nil, stopped(api.StopPoint, 0, 1, 1))
	}
	jumps := module(t, 128, "0 enter 4, 1 const 4, 2 jump, 3 break, 4 const 1, 5 const 1, 6 eq 8, 7 break, 8 const 1, 9 const 2, 10 eq 7, 11 const 1, 12 leave 4", 4)
	for at, counts := range map[uint32][]int{4: {3}, 8: {6}, 11: {9}, 7: nil, 3: nil, 12: {10}} {
		wantMet(t, begun(t, jumps, 0, nil), point(api.PointAt, at), nil, counts...)
	}
	// A fault leaves PC where it is, and is not met there.
	fault := module(t, 128, "0 enter 4, 1 break")
	wantMet(t, begun(t, fault, 0, nil), point(api.PointAt, 1), nil, 1)
	x = begun(t, fault, 0, nil)
	x.Next(nil)
	wantMet(t, x, point(api.PointAt, 1), nil)
}

// PointAt where a call waits: met when the run has come there, not again by waiting, and not by the call.
func TestPointAtACallThatWaits(t *testing.T) {
	x := begun(t, asker(t), 0, nil, grant(1, 1), grant(2, 2))
	wantAdd(t, x, point(api.PointAt, 4), 0)
	ask := event(4, 1, 0, 7)
	wantGo(t, x, 100, nil, api.Stop{Kind: api.StopPoint, Result: api.Result{End: api.EndReply, At: 4, Used: 4, Ask: ask}})
	for range 3 {
		wantGo(t, x, 100, nil, ended(api.Result{End: api.EndReply, At: 4, Ask: ask}))
		wantNext(t, x, nil, ended(api.Result{End: api.EndReply, At: 4, Ask: ask}))
	}
}

// PointIn: by a call that leads there alone; not by a Start, not by a goto behind the enter, not by a call that meets a fault.
func TestPointIn(t *testing.T) {
	m := sample(t)
	wantMet(t, begun(t, m, 0, nil), point(api.PointIn, 6), nil, 5)
	wantMet(t, begun(t, m, 0, nil), point(api.PointIn, 0), nil)
	wantMet(t, begun(t, m, 6, nil), point(api.PointIn, 6), nil)
	for n := range uint32(4) {
		var counts []int
		for range n {
			counts = append(counts, 12)
		}
		wantMet(t, begun(t, nester(t), 0, list(n)), point(api.PointIn, 0), nil, counts...)
	}
	// A call that leads to no procedure, and one that is too deep, meet a fault and no point.
	wrong := module(t, 128, "0 enter 4, 1 const 1, 2 call, 3 leave 4")
	wantMet(t, begun(t, wrong, 0, nil), point(api.PointIn, 0), nil)
	full := strings.Repeat(", const 7", 64) + strings.Repeat(", pop", 63) + ", leave 4"
	deep := module(t, 128, "0 enter 4, 1 const 1, 2 const 6, 3 call, 4 pop, 5 leave 4, 6 enter 4"+full)
	wantMet(t, begun(t, deep, 0, nil), point(api.PointIn, 6), nil)
	shallow := module(t, 128, "0 enter 4, 1 goto 2, 2 const 5, 3 call, 4 leave 4, 5 enter 4"+full)
	wantMet(t, begun(t, shallow, 0, nil), point(api.PointIn, 5), nil, 4)
	// An enter that meets a fault is the procedure's own: it has been called.
	large := module(t, 64, "0 enter 4, 1 const 4, 2 call, 3 leave 4, 4 enter 4096, 5 const 1, 6 leave 4096")
	wantMet(t, begun(t, large, 0, nil), point(api.PointIn, 4), nil)
}

// reader gives a module in which each kind of instruction touches something, some of it round the segment's end.
func reader(t testing.TB) made {
	t.Helper()
	return module(t, 128, `0 enter 8, 1 const 7, 2 arg 0, 3 const 40, 4 load1, 5 const 255, 6 load2, 7 const 0xFFFFFFFE, 8 load4,
		9 const 50, 10 store1, 11 const 255, 12 const 0x100, 13 store2, 14 pop, 15 pop, 16 const 254, 17 const 9, 18 store4,
		19 const 60, 20 const 250, 21 copy 10, 22 const 60, 23 const 60, 24 copy 0, 25 const -2, 26 call, 27 pop,
		28 const 31, 29 call, 30 leave 8, 31 enter 4, 32 const 5, 33 leave 4`)
}

// readers gives replies for it, some of them with writes over one another and round the end.
func readers() [][]api.Reply {
	return [][]api.Reply{
		{reply(5, write(254, 1, 2, 3, 4), write(0, 9), write(100))},
		{reply(5)},
		{reply(5, write(0x1000A0, make([]byte, 256)...))},
		nil,
	}
}

// PointRead and PointWrite: at every instruction of a run, windows at all addresses and of all lengths that are of use, against DOC.md's 'What is touched'.
func TestWindows(t *testing.T) {
	m := reader(t)
	lens := list(1, 2, 3, 4, 10, 128, 252, 253, 255, 256, 257, 1<<31, 0xFFFFFFFF)
	for _, given := range readers() {
		met, fine := 0, 0
		p := newPair(t, m, grant(1, 3))
		wantOK(t, p.Start(0, nil))
		for p.book.state.Life == api.LifeRuns {
			ahead := p.book.state
			one, took := p.book.next(t, ahead, given)
			if !took {
				break
			}
			for at := range uint32(256) {
				for i, count := range lens {
					for _, kind := range []api.PointKind{api.PointRead, api.PointWrite} {
						at := at + uint32(i)<<28 + uint32(i)<<8
						if p.watch.Put(ahead) != api.OK {
							t.Fatal("refused")
						}
						w := span(kind, at, count)
						number, _ := p.watch.Add(w)
						got, _ := p.watch.Go(1, given)
						if want := p.book.meets(w, one); want != (got.Kind == api.StopPoint) {
							t.Fatalf("%v at %d: %+v: %+v", one.in, ahead.PC, w, got)
						} else if want {
							met++
						} else {
							fine++
						}
						wantOK(t, p.watch.Drop(number))
					}
				}
			}
			wantOK(t, p.Put(ahead))
			got, _ := p.does("Next", 1, given)
			given = given[got.Result.Replies:]
		}
		if met < 10000 || fine < 10000 {
			t.Errorf("%d are met, %d are not", met, fine)
		}
	}
}

// PointRead and PointWrite, literally: a load reads, a store writes, a call lays its return point down, a leave reads it.
func TestReadAndWrite(t *testing.T) {
	type row struct {
		at, count uint32
		used      []int
	}
	reads := []row{
		{188, 4, []int{8}}, {191, 1, []int{8}}, {188, 1, []int{8}}, {184, 1, []int{9}}, {187, 2, []int{8, 1}}, {192, 4, []int{10}}, {195, 1, []int{10}},
		{183, 1, nil}, {196, 1, nil}, {196, 244, nil}, {196, 245, []int{9}}, {0xFFFFFFF0, 200, nil}, {0xFFFFFFF0, 201, []int{9}},
		{77, 256, []int{8, 1, 1}}, {77, 1<<31 + 1, []int{8, 1, 1}}, {0xFFFFFFFF, 0xFFFFFFFF, []int{8, 1, 1}},
	}
	writes := []row{
		{188, 4, []int{3}}, {191, 1, []int{3}}, {188, 1, []int{3}}, {187, 2, []int{3, 2}}, {187, 1, []int{5}}, {184, 4, []int{5}}, {0xFFFFFFBC, 1, []int{3}},
		{183, 1, nil}, {192, 1, nil}, {192, 248, nil}, {192, 249, []int{5}}, {192, 252, []int{5}}, {192, 253, []int{3, 2}},
		{77, 256, []int{3, 2}}, {0, 0xFFFFFFFF, []int{3, 2}},
	}
	for kind, rows := range map[api.PointKind][]row{api.PointRead: reads, api.PointWrite: writes} {
		for _, r := range rows {
			wantMet(t, begun(t, sample(t), 0, nil), span(kind, r.at, r.count), nil, r.used...)
		}
	}
}

// PointRead: a leave that meets a fault has read its return word, but not where that lies above the top; no other instruction that meets a fault has touched anything.
func TestFaultsTouch(t *testing.T) {
	all := func(kind api.PointKind) api.Point { return span(kind, 0, 256) }
	m := module(t, 128, "0 enter 4, 1 const 3, 2 leave 4, 3 enter 4, 4 const 1, 5 const 0, 6 divi, 7 leave 4, 8 enter 4, 9 const -5, 10 call, 11 leave 4")
	for _, sp := range list(m.top()-4, m.top()) {
		x := watchOf(t, m)
		wantAdd(t, x, all(api.PointRead), 0)
		wantAdd(t, x, all(api.PointWrite), 1)
		wantOK(t, x.Put(api.State{Life: api.LifeRuns, PC: 2, SP: sp, Ops: list(3), Data: make([]byte, 256)}))
		want := api.Stop{Kind: api.StopPoint, Result: api.Result{End: api.EndFault, At: 2, Fault: api.FaultReturn, Used: 1}}
		if sp == m.top() {
			want.Kind, want.Result.Fault = api.StopEnd, api.FaultStack
		}
		wantGo(t, x, 9, nil, want)
	}
	for at, used := range map[uint32]int{3: 4, 8: 3} {
		x := begun(t, m, at, nil)
		wantAdd(t, x, all(api.PointRead), 0)
		wantAdd(t, x, all(api.PointWrite), 1)
		got, err := x.Go(9, replies(1))
		if err != api.OK || got.Kind != api.StopEnd || got.Result.End != api.EndFault || got.Result.Used != used {
			t.Errorf("at %d: %+v, %d", at, got, err)
		}
	}
}

// PointWhen: met where the word comes to stand so, by whatever writes it, and not where it stands so already.
func TestPointWhen(t *testing.T) {
	m := module(t, 128, `0 enter 8, 1 const 40, 2 const 5, 3 store4, 4 const 40, 5 const 5, 6 store4, 7 const 40, 8 const 6, 9 store4,
		10 const 41, 11 const 1, 12 store1, 13 const 41, 14 const 0, 15 store2, 16 const 40, 17 const 60, 18 copy 4, 19 const -1, 20 leave 8`)
	// The word at 40: 0; 5 behind the 4th one that is taken, 6 behind the 10th, 0x106 behind the 13th, 6 behind the 16th, 0 behind the 19th.
	for _, c := range []struct {
		p    api.Point
		used []int
	}{
		{when(40, api.OpEq, 5), []int{4}}, {when(40, api.OpEq, 6), []int{10, 6}}, {when(40, api.OpEq, 0), []int{19}}, {when(40, api.OpNe, 0), []int{4}},
		{when(40, api.OpNe, 6), []int{13, 6}}, {when(40, api.OpGtu, 5), []int{10}}, {when(40, api.OpGtu, 4), []int{4}}, {when(40, api.OpLtu, 6), []int{19}},
		{when(40, api.OpLti, 0xFFFFFFFF), nil}, {when(40, api.OpGei, 0xFFFFFFFF), nil}, {when(40, api.OpGei, 0x106), []int{13}}, {when(40, api.OpEq, 7), nil},
		{when(39, api.OpEq, 0x500), []int{4}}, {when(41, api.OpEq, 1), []int{13}}, {when(37, api.OpEq, 0x06000000), []int{10}}, {when(0xFFFFFF28, api.OpEq, 5), []int{4}},
		{when(40, api.OpGtf, 0), []int{4}}, {when(40, api.OpEqf, 0x80000000), []int{19}}, {when(40, api.OpNef, 0x7FC00000), nil}, {when(100, api.OpEq, 0), nil},
	} {
		wantMet(t, begun(t, m, 0, nil), c.p, nil, c.used...)
	}
}

// PointWhen: by a reply's writes, a call, an arg; only what stands behind the whole instruction counts, and a word may go round the segment's end.
func TestPointWhenElsewhere(t *testing.T) {
	m := asker(t)
	given := []api.Reply{reply(1, write(254, 1, 2, 3, 4), write(100, 7), write(100, 0)), reply(2), reply(3, write(255, 9))}
	for _, c := range []struct {
		p    api.Point
		used []int
	}{
		{when(254, api.OpEq, 0x04030201), []int{5}}, {when(0xFFFFFFFE, api.OpGeu, 0x04030201), []int{5}}, {when(255, api.OpEq, 0x00040302), []int{5}},
		{when(254, api.OpEq, 0x04030901), []int{12}}, {when(100, api.OpNe, 0), nil}, {when(180, api.OpEq, 7), []int{3}},
		{when(184, api.OpEq, 1), []int{6}}, {when(40, api.OpEq, 2), []int{10}},
	} {
		wantMet(t, begun(t, m, 0, nil, grant(1, 1), grant(2, 2)), c.p, given, c.used...)
	}
	wantMet(t, begun(t, sample(t), 0, nil), when(184, api.OpEq, 5), nil, 5)
}

// PointWhen: what was put in or written ahead of the run is not met by its first instruction.
func TestPointWhenStoodAlready(t *testing.T) {
	m := sample(t)
	x := begun(t, m, 0, list(9))
	wantMet(t, x, when(196, api.OpEq, 9), nil)
	s := lived(m)[api.LifeRuns]
	put(s.Data, 188, 41)
	wantOK(t, x.Put(s))
	wantMet(t, x, when(188, api.OpEq, 41), nil)
	// A point that is added late has not seen what was ahead.
	x = begun(t, m, 0, nil)
	x.Go(3, nil)
	wantMet(t, x, when(188, api.OpEq, 41), nil)
}

// PointCall: by an event of the number; not by a call that waits, nor by one that is not granted, nor by one of a procedure.
func TestPointCall(t *testing.T) {
	grants := []api.Grant{grant(1, 1), grant(2, 2)}
	for number, used := range map[uint32][]int{0: nil, 1: {5, 7}, 2: {9}, 3: nil, 1<<31 - 1: nil, 4: nil, 8: nil} {
		wantMet(t, begun(t, asker(t), 0, nil, grants...), point(api.PointCall, number), replies(1, 2, 3), used...)
	}
	x := begun(t, asker(t), 0, nil, grants...)
	wantMet(t, x, point(api.PointCall, 1), nil)
	wantOK(t, x.Drop(0))
	wantMet(t, x, point(api.PointCall, 1), replies(9), 1)
	wantMet(t, begun(t, asker(t), 0, nil, grants[1]), point(api.PointCall, 1), replies(9))
	wantMet(t, begun(t, sample(t), 0, nil, grant(6, 0)), point(api.PointCall, 6), replies(9))
	for _, number := range list(0, 1<<31-1) {
		m := mustTake(t, api.Image{Code: []api.Instr{in(api.OpEnter, 4), in(api.OpConst, ^number), in(api.OpCall, 0), in(api.OpLeave, 4)}, Stack: 128})
		wantMet(t, begun(t, m, 0, nil, grant(number, 0)), point(api.PointCall, number), replies(9), 3)
		wantMet(t, begun(t, m, 0, nil, grant(number, 0)), point(api.PointCall, number^1), replies(9))
	}
}

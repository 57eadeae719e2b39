package watch_test

import (
	"testing"

	"playpen/api"
)

// P26.4: the frames at each instruction of a run: a call adds one, a leave takes one away, the last one too; the innermost is told first.
func TestTrail(t *testing.T) {
	x := begun(t, nester(t), 0, list(3))
	want := []api.Frame{{}}
	for used := 0; len(want) > 0; used++ {
		wantTrail(t, x, want...)
		ahead := x.State().PC
		got, _ := x.Next(nil)
		switch ahead {
		case 11:
			want = append([]api.Frame{{Begin: 0, From: 11}}, want...)
		case 14:
			want = want[1:]
		}
		if got.Result.Used != 1 {
			t.Fatalf("%+v", got)
		}
	}
	wantTrail(t, x)
	if s := x.State(); s.Life != api.LifeDone {
		t.Error(shown(s))
	}
	wantOK(t, x.Start(0, nil))
	wantTrail(t, x, api.Frame{})
}

// P26.4: an instruction that meets a fault adds and takes nothing; a call that does, and a leave.
func TestTrailAtFaults(t *testing.T) {
	m := module(t, 64, "0 enter 4, 1 const 3, 2 call, 3 leave 4, 4 enter 64, 5 const 1, 6 leave 64, 7 enter 4, 8 const 4, 9 call, 10 leave 4")
	x := begun(t, m, 0, nil)
	x.Go(9, nil)
	wantTrail(t, x, api.Frame{})
	x = begun(t, m, 7, nil)
	x.Go(9, nil)
	wantTrail(t, x, api.Frame{Begin: 7})
	broken := module(t, 128, "0 enter 8, 1 const 4, 2 call, 3 leave 8, 4 enter 8, 5 const 1, 6 arg 1, 7 const 5, 8 leave 8")
	x = begun(t, broken, 0, nil)
	got, _ := x.Go(20, nil)
	if got.Result.Fault != api.FaultReturn {
		t.Errorf("%+v", got)
	}
	wantTrail(t, x, api.Frame{Begin: 4, From: 2}, api.Frame{})
}

// P26.4: where return words are written over the trail is what the watch has seen: a leave takes the last frame away wherever it leads, and none where there is none.
func TestTrailOfALie(t *testing.T) {
	// The second procedure writes 3 over its return word, where the mark stands, and comes back to where nobody has called from.
	m := module(t, 128, "0 enter 8, 1 const 7, 2 call, 3 leave 8, 4 enter 4, 5 const 1, 6 leave 4, 7 enter 8, 8 const 3, 9 arg 1, 10 const 5, 11 leave 8")
	x := begun(t, m, 7, nil)
	s := x.State()
	wantTrail(t, x, api.Frame{Begin: 7})
	s.SP -= 16
	wantOK(t, x.Put(s))
	wantTrail(t, x, api.Frame{Begin: 7})
	wantGo(t, x, 5, nil, ended(api.Result{End: api.EndFuel, At: 3, Used: 5}))
	wantTrail(t, x)
	// What goes on there has no frame: Over takes one instruction, Out none that is told.
	put := x.State()
	wantOver(t, x, 9, nil, api.Stop{Kind: api.StopStep, Result: api.Result{End: api.EndFault, At: 3, Fault: api.FaultReturn, Used: 1}})
	wantTrail(t, x)
	wantOK(t, x.Put(put))
	wantTrail(t, x, api.Frame{Begin: 0})
}

// P26.4: a word at every address, as a load of four bytes gives it, at each Life; and it touches nothing.
func TestWord(t *testing.T) {
	m := sample(t)
	for life, s := range lived(m) {
		x := watchOf(t, m)
		wantAdd(t, x, span(api.PointRead, 0, 256), 0)
		wantOK(t, x.Put(s))
		before := heldBy(x)
		for at := range uint32(520) {
			for _, at := range list(at, at-260, at+1<<31) {
				if got, err := x.Word(at); err != api.OK || got != wordAt(s.Data, at) {
					t.Errorf("Life %d: Word(%d): %x, %d", life, at, got, err)
				}
			}
		}
		wantHeld(t, x, before)
		if life == api.LifeRuns {
			// The load at 8 reads; a local would not.
			wantGo(t, x, 9, nil, stopped(api.StopPoint, 0, 1, 9))
		}
	}
	y := begun(t, m, 0, nil)
	wantAdd(t, y, span(api.PointRead, 0, 256), 0)
	y.Word(188)
	wantGo(t, y, 3, nil, ended(api.Result{End: api.EndFuel, At: 3, Used: 3}))
}

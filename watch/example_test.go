package watch_test

import (
	"testing"

	"playpen/api"
	"playpen/watch"
)

// began gives the watch of the chapter's examples behind its Start.
func began(t testing.TB) *watch.Watch {
	t.Helper()
	return begun(t, sample(t), 0, nil)
}

// withPoints gives it with the points of the first example.
func withPoints(t testing.TB) *watch.Watch {
	t.Helper()
	x := began(t)
	wantAdd(t, x, point(api.PointIn, 6), 0)
	wantAdd(t, x, span(api.PointRead, 188, 4), 1)
	return x
}

// P26.2, P26.3, P26.4: the first example.
func TestExample1(t *testing.T) {
	x := withPoints(t)
	wantGo(t, x, 100, nil, stopped(api.StopPoint, 0, 5, 6))
	wantTrail(t, x, api.Frame{Begin: 6, From: 4}, api.Frame{})
	wantGo(t, x, 100, nil, stopped(api.StopPoint, 1, 3, 9))
	if got, err := x.Word(188); got != 41 || err != api.OK {
		t.Errorf("Word: %d, %d", got, err)
	}
	wantOut(t, x, 100, nil, stopped(api.StopStep, 0, 1, 5))
	wantGo(t, x, 100, nil, ended(api.Result{End: api.EndDone, At: 5, Value: 41, Used: 1}))
}

// P26.3: the second example.
func TestExample2(t *testing.T) {
	x := began(t)
	for _, at := range list(1, 2, 3, 4, 6) {
		wantNext(t, x, nil, stopped(api.StopStep, 0, 1, at))
	}
	for _, points := range []bool{false, true} {
		x, want := began(t), stopped(api.StopStep, 0, 5, 5)
		if points {
			x, want = withPoints(t), stopped(api.StopPoint, 0, 1, 6)
		}
		for range 4 {
			x.Next(nil)
		}
		wantOver(t, x, 100, nil, want)
	}
}

// P26.3: the third example.
func TestExample3(t *testing.T) {
	x := began(t)
	wantAdd(t, x, when(188, api.OpEq, 41), 0)
	wantGo(t, x, 100, nil, stopped(api.StopPoint, 0, 3, 3))
	wantGo(t, x, 100, nil, ended(api.Result{End: api.EndDone, At: 5, Value: 41, Used: 7}))
}

// P26.2: the fourth example.
func TestExample4(t *testing.T) {
	x := withPoints(t)
	wantErr(t, "Drop", x.Drop(0), api.OK)
	wantErr(t, "Drop again", x.Drop(0), api.ErrPoint)
	for _, p := range []api.Point{point(api.PointIn, 7), span(api.PointRead, 188, 0), point(api.PointAt, 10)} {
		if number, err := x.Add(p); number != 0 || err != api.ErrWhere {
			t.Errorf("Add(%+v): %d, %d", p, number, err)
		}
	}
}

// P26.3, P26.4: the fifth example.
func TestExample5(t *testing.T) {
	x := began(t)
	wantGo(t, x, 9, nil, ended(api.Result{End: api.EndFuel, At: 5, Used: 9}))
	wantTrail(t, x, api.Frame{})
	want := api.Stop{Kind: api.StopStep, Result: api.Result{End: api.EndDone, At: 5, Value: 41, Used: 1}}
	wantOver(t, x, 100, nil, want)
	wantTrail(t, x)
}

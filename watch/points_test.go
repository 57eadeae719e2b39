package watch_test

import (
	"slices"
	"testing"

	"playpen/api"
)

// P26.2: what each kind names may be what the chapter says, and what it does not name may not be but 0.
func TestWhatMayBe(t *testing.T) {
	m := sample(t)
	x := watchOf(t, m)
	b := book{made: m}
	ats := list(0, 1, 5, 6, 7, 9, 10, 11, 255, 256, 16384, 1<<31-1, 1<<31, 1<<31+6, 0xFFFFFFFF)
	lens := list(0, 1, 4, 255, 256, 257, 1<<31, 0xFFFFFFFF)
	values := list(0, 1, 0xFFFFFFFF)
	taken, refused := 0, 0
	for kind := range 256 {
		for _, at := range ats {
			for _, count := range lens {
				for _, op := range []api.Op{0, 1, api.OpEq - 1, api.OpEq, api.OpGtu, api.OpGef, api.OpGef + 1, api.LastOp, 255} {
					for _, value := range values {
						p := api.Point{Kind: api.PointKind(kind), At: at, Len: count, Op: op, Value: value}
						number, err := x.Add(p)
						if b.mayBe(p) != (err == api.OK) || err != api.OK && (err != api.ErrWhere || number != 0) || err == api.OK && number != taken {
							t.Fatalf("Add(%+v): %d, %d", p, number, err)
						}
						if err != api.OK {
							refused++
							continue
						}
						taken++
						wantPoints(t, x, numbered{number, p})
						wantOK(t, x.Drop(number))
					}
				}
			}
		}
	}
	if taken < 300 || refused < 10000 {
		t.Errorf("%d taken, %d refused", taken, refused)
	}
}

// P26.2: every operation that a PointWhen may name, and every other.
func TestEveryComparison(t *testing.T) {
	x := watchOf(t, sample(t))
	taken := 0
	for op := range 256 {
		_, err := x.Add(when(188, api.Op(op), 5))
		want := api.ErrWhere
		if op >= int(api.OpEq) && op <= int(api.OpGef) {
			want = api.OK
			taken++
		}
		wantErr(t, "Add", err, want)
	}
	if taken != 16 {
		t.Errorf("%d comparisons", taken)
	}
}

// P26.2, R2: as many points as may be, and one more; a point that may not be is told first. Who drops one may add one, with a number that none had.
func TestMostPoints(t *testing.T) {
	x := watchOf(t, sample(t))
	var want []numbered
	for i := range 64 {
		p := point(api.PointCall, uint32(i))
		wantAdd(t, x, p, i)
		want = append(want, numbered{i, p})
	}
	for next := 64; next < 70; next++ {
		wantPoints(t, x, want...)
		for range 3 {
			if number, err := x.Add(point(api.PointAt, 0)); number != 0 || err != api.ErrPoints {
				t.Errorf("%d, %d", number, err)
			}
			if number, err := x.Add(point(api.PointAt, 10)); number != 0 || err != api.ErrWhere {
				t.Errorf("%d, %d", number, err)
			}
		}
		wantPoints(t, x, want...)
		at := next * 7 % 64
		wantErr(t, "Drop", x.Drop(want[at].number), api.OK)
		wantErr(t, "Drop again", x.Drop(want[at].number), api.ErrPoint)
		want = slices.Delete(want, at, at+1)
		p := point(api.PointAt, uint32(next%10))
		wantAdd(t, x, p, next)
		want = append(want, numbered{next, p})
	}
}

// P26.2: numbers go on, whatever was dropped, started or put in, and the same point may be there more than once.
func TestNumbers(t *testing.T) {
	m := sample(t)
	x := watchOf(t, m)
	p := point(api.PointAt, 3)
	for i := range 200 {
		wantAdd(t, x, p, i)
		if i%3 != 0 || i > 150 {
			wantOK(t, x.Drop(i))
		}
		switch i % 4 {
		case 0:
			wantOK(t, x.Start(0, nil))
		case 1:
			wantOK(t, x.Put(lived(m)[api.LifeDone]))
		case 2:
			x.Add(api.Point{})
			x.Drop(1000)
		}
	}
	var want []numbered
	for i := 0; i <= 150; i += 3 {
		want = append(want, numbered{i, p})
	}
	wantPoints(t, x, want...)
	y := watchOf(t, m)
	wantAdd(t, y, p, 0)
}

// P26.2: Drop of a number of no point is refused, and nothing is dropped.
func TestDropErrors(t *testing.T) {
	x := watchOf(t, sample(t))
	for _, number := range []int{0, -1, 1} {
		wantErr(t, "Drop", x.Drop(number), api.ErrPoint)
	}
	wantAdd(t, x, point(api.PointAt, 3), 0)
	wantAdd(t, x, point(api.PointAt, 4), 1)
	wantAdd(t, x, point(api.PointAt, 5), 2)
	wantOK(t, x.Drop(1))
	for _, number := range []int{1, 3, -1, 64, 1 << 32, -1 << 63, 1<<63 - 1} {
		wantErr(t, "Drop", x.Drop(number), api.ErrPoint)
	}
	wantPoints(t, x, numbered{0, point(api.PointAt, 3)}, numbered{2, point(api.PointAt, 5)})
}

// P26.2, R4: Points goes through the points that were there when it was called; it may be left early, and be gone through again, and inside itself.
func TestPoints(t *testing.T) {
	x := watchOf(t, sample(t))
	none := x.Points()
	var want []numbered
	for i := range 6 {
		p := point(api.PointAt, uint32(i))
		wantAdd(t, x, p, i)
		want = append(want, numbered{i, p})
	}
	all := x.Points()
	seen := 0
	for number := range all {
		// What comes and goes on the way is not seen.
		x.Drop(number)
		x.Add(point(api.PointIn, 0))
		seen++
	}
	if seen != 6 {
		t.Errorf("%d points", seen)
	}
	for range 3 {
		if got := pointsOf(all); !slices.Equal(got, want) {
			t.Errorf("points %v, want %v", got, want)
		}
		if got := pointsOf(none); len(got) != 0 {
			t.Errorf("points %v, want none", got)
		}
		for stop := range 6 {
			var got []numbered
			for number, p := range all {
				got = append(got, numbered{number, p})
				if number == stop {
					break
				}
			}
			if !slices.Equal(got, want[:stop+1]) {
				t.Errorf("points %v", got)
			}
		}
	}
	pairs := 0
	for range all {
		for range all {
			pairs++
		}
	}
	if pairs != 36 || len(pointsOf(x.Points())) != 6 {
		t.Errorf("%d pairs, %v", pairs, pointsOf(x.Points()))
	}
}

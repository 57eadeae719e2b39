package thread_test

import (
	"testing"

	"playpen/api"
	"playpen/cell"
	"playpen/thread"
	"playpen/verify"
)

// crowd gives so many grants.
func crowd(count int) []api.Grant {
	list := make([]api.Grant, count)
	for i := range list {
		list[i] = grant(uint32(i), 0)
	}
	return list
}

// fineGrants gives grants that may be, wrongGrants such as may not.
func fineGrants() [][]api.Grant {
	return [][]api.Grant{nil, {}, {grant(1<<31-1, 15), grant(0, 0)}, crowd(64)}
}

func wrongGrants() [][]api.Grant {
	return [][]api.Grant{crowd(65), {grant(1<<31, 0)}, {grant(0xFFFFFFFF, 0)}, {grant(1, 16)}, {grant(1, -1)}, {grant(7, 2), grant(3, 1), grant(7, 2)}, {grant(7, 2), grant(7, 1)}}
}

// P24.1, P24.4: a machine's state is the module's fresh one, for each k; its log is off and empty; it uses what Translate answers.
func TestNew(t *testing.T) {
	for k := 8; k <= 16; k++ {
		data := filled(1<<k - 128 - 5)
		m := mustTake(t, api.Image{Code: lines(t, "enter 4, const 0, load4, leave 4"), Data: data, Zero: 5, Stack: 128})
		used, place, err := thread.Use(m.Module, nil, singles(m))
		if used == nil || place != 0 || err != api.OK {
			t.Fatalf("Use: %d, %d", place, err)
		}
		for _, x := range []*thread.Machine{machine(t, m), used} {
			want := append(append([]byte{}, data...), make([]byte, 133)...)
			wantState(t, x, api.State{Life: api.LifeIdle, SP: uint32(1<<k - 64), Data: want})
			wantResult(t, x, 9, nil, api.Result{End: api.EndIdle})
			wantTouched(t, x)
			wantOK(t, x.Start(0, nil))
			wantResult(t, x, 9, nil, api.Result{End: api.EndDone, At: 3, Value: word(data, 0), Used: 4})
			wantTouched(t, x)
		}
		if got := machine(t, m).Cells(); !sameCode(got, translated(t, m)) {
			t.Errorf("%v", got)
		}
		if got := used.Cells(); !sameCode(got, singles(m)) {
			t.Errorf("%v", got)
		}
	}
}

// wantRefused wants New and Use to refuse, with nothing beside the error but the place.
func wantRefused(t *testing.T, what string, m *verify.Module, grants []api.Grant, code api.Threaded, place int, want api.Errno) {
	t.Helper()
	if x, at, err := thread.Use(m, grants, code); x != nil || at != place || err != want {
		t.Errorf("%s: Use(%v): %v, %d, %d; want %d, %d", what, grants, x != nil, at, err, place, want)
	}
	if want != api.ErrNil && want != api.ErrGrant {
		return
	}
	if x, err := thread.New(m, grants); x != nil || err != want {
		t.Errorf("%s: New(%v): %v, %d, want %d", what, grants, x != nil, err, want)
	}
}

// P24.1, P24.2, R2: what New and Use refuse, in its order: a module that is none, then grants that may not be, then the threaded code.
func TestRefused(t *testing.T) {
	m := example(t)
	wrong := translated(t, m)
	wrong.Cells[3].To = 7
	codes := []api.Threaded{translated(t, m), singles(m), wrong, {}}
	for _, code := range codes {
		for what, none := range unmade(t) {
			for _, grants := range append(fineGrants(), wrongGrants()...) {
				wantRefused(t, what, none, grants, code, 0, api.ErrNil)
			}
		}
		for _, grants := range wrongGrants() {
			wantRefused(t, "a module", m.Module, grants, code, 0, api.ErrGrant)
		}
	}
	for _, grants := range fineGrants() {
		machine(t, m, grants...)
		using(t, m, codes[0], grants...)
		using(t, m, codes[1], grants...)
		wantRefused(t, "To 7", m.Module, grants, wrong, 3, api.ErrCell)
		wantRefused(t, "no cells", m.Module, grants, api.Threaded{}, 0, api.ErrCover)
	}
}

// P24.2: each of Check's errors, with its place.
func TestCheckErrors(t *testing.T) {
	m := example(t)
	refused := func(what string, place int, want api.Errno, turn func(x *api.Threaded)) {
		t.Helper()
		code := translated(t, m)
		turn(&code)
		wantRefused(t, what, m.Module, nil, code, place, want)
	}
	refused("fewer cells", 7, api.ErrCover, func(x *api.Threaded) { x.Cells = x.Cells[:7] })
	refused("a gap", 2, api.ErrCover, func(x *api.Threaded) { x.Cells[2].Fused.At = 6 })
	refused("over a leader", 4, api.ErrLeader, func(x *api.Threaded) { x.Cells[4].Fused.Len = 3 })
	refused("another constant", 1, api.ErrCell, func(x *api.Threaded) { x.Cells[1].Fused.A = 6 })
	refused("another kind", 7, api.ErrCell, func(x *api.Threaded) { x.Cells[7].Fused.Kind = api.FusePush })
	refused("another begin", 8, api.ErrCellMap, func(x *api.Threaded) { x.Begins[2] = 1 })
	refused("fewer begins", 8, api.ErrCellMap, func(x *api.Threaded) { x.Begins = x.Begins[:13] })
	refused("a target too many", 6, api.ErrCell, func(x *api.Threaded) { x.Cells[6].To = 0 })
	refused("no target", 3, api.ErrCell, func(x *api.Threaded) { x.Cells[3].To = no })
	other := module(t, 128, "0 enter 4, 1 const 1, 2 leave 4")
	wantRefused(t, "another module's", m.Module, nil, translated(t, other), 0, api.ErrCell)
}

// useAsCheck wants Use to take and to refuse just what Check does, with the same place.
func useAsCheck(t testing.TB, m made, code api.Threaded, grants ...api.Grant) api.Errno {
	t.Helper()
	place, want := cell.Check(m.Module, code)
	x, at, err := thread.Use(m.Module, grants, code)
	if at != place || err != want || (x != nil) != (want == api.OK) {
		t.Fatalf("%v, %v: %v, %d, %d; want %d, %d", m.image, code, x != nil, at, err, place, want)
	}
	if x != nil && !sameCode(x.Cells(), code) {
		t.Fatalf("%v, want %v", x.Cells(), code)
	}
	return err
}

// P24.2: Use takes and refuses just what Check does, with the same place: scattered covers, some of them turned in a number.
func TestUseAsCheck(t *testing.T) {
	seen := map[api.Errno]int{}
	for round := range uint64(1500) {
		d := newDice(1000 + round)
		m := d.someModule(t, 10)
		code := d.someCover(t, m)
		for range d.upTo(2) {
			d.turnNumber(&code)
		}
		seen[useAsCheck(t, m, code, d.someGrants()...)]++
	}
	for _, err := range []api.Errno{api.OK, api.ErrCell, api.ErrCover, api.ErrCellMap} {
		if seen[err] < 50 {
			t.Errorf("%d: %d times", err, seen[err])
		}
	}
}

// turnNumber makes one number of threaded code another one.
func (d *dice) turnNumber(x *api.Threaded) {
	c := &x.Cells[d.upTo(len(x.Cells)-1)]
	step := one(d, []uint32{1, 0xFFFFFFFF, 7})
	switch d.upTo(7) {
	case 0:
		c.Fused.At += step
	case 1:
		c.Fused.Len += step
	case 2:
		c.Fused.Kind += api.FuseKind(step)
	case 3:
		c.Fused.Op += api.Op(step)
	case 4:
		c.Fused.A += step
	case 5:
		c.Fused.B += step
	case 6:
		c.To += step
	default:
		x.Begins[d.upTo(len(x.Begins)-1)] += step
	}
}

// P24.4: Cells tells the threaded code, whatever the machine has done.
func TestCells(t *testing.T) {
	for round := range uint64(200) {
		d := newDice(3000 + round)
		m := d.someModule(t, 15)
		code := d.someCover(t, m)
		x, y := using(t, m, code, d.someGrants()...), machine(t, m, d.someGrants()...)
		for range 5 {
			for _, one := range []*thread.Machine{x, y} {
				wantOK(t, one.Start(d.someBegin(m), d.someArgs()))
				one.Go(d.upTo(30), d.someReplies(3))
				wantOK(t, one.Put(d.someState(m)))
				one.Go(d.upTo(30), d.someReplies(3))
			}
			if !sameCode(x.Cells(), code) || !sameCode(y.Cells(), translated(t, m)) {
				t.Fatalf("%v, %v", x.Cells(), y.Cells())
			}
		}
	}
}

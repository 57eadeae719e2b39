package watch_test

import (
	"slices"
	"testing"

	"playpen/api"
	"playpen/verify"
	"playpen/watch"
)

// P26.1: a watch has no points, no frames, and the module's fresh state, for each k.
func TestNew(t *testing.T) {
	for k := 8; k <= 16; k++ {
		data := make([]byte, 1<<k-128-5)
		for i := range data {
			data[i] = byte(i*37 + 5)
		}
		m := mustTake(t, api.Image{Code: lines(t, "enter 4, const 0, load4, leave 4"), Data: data, Zero: 5, Stack: 128})
		x := watchOf(t, m)
		fresh := held{state: api.State{Life: api.LifeIdle, SP: uint32(1<<k - 64), Data: slices.Concat(data, make([]byte, 133))}}
		wantHeld(t, x, fresh)
		for what, call := range ways() {
			got, err := call(x, 9, nil)
			wantStop(t, what, got, err, ended(api.Result{End: api.EndIdle}))
			wantHeld(t, x, fresh)
		}
		wantErr(t, "Drop", x.Drop(0), api.ErrPoint)
		wantOK(t, x.Start(0, nil))
		wantGo(t, x, 9, nil, ended(api.Result{End: api.EndDone, At: 3, Value: word(data, 0), Used: 4}))
	}
}

// P26.1, R2: what New refuses, in its order: a module that is none, then grants that may not be.
func TestNewErrors(t *testing.T) {
	crowd := make([]api.Grant, 65)
	for i := range crowd {
		crowd[i] = grant(uint32(i), 0)
	}
	fine := [][]api.Grant{nil, {}, {grant(1<<31-1, 15), grant(0, 0)}, crowd[:64]}
	wrong := [][]api.Grant{crowd, {grant(1<<31, 0)}, {grant(1, 16)}, {grant(1, -1)}, {grant(7, 2), grant(3, 1), grant(7, 2)}}
	refused := func(what string, m *verify.Module, grants []api.Grant, want api.Errno) {
		t.Helper()
		if x, err := watch.New(m, grants); x != nil || err != want {
			t.Errorf("%s: New(%v): %v, %d, want %d", what, grants, x != nil, err, want)
		}
	}
	m := sample(t)
	for _, grants := range append(fine, wrong...) {
		for what, none := range unmade(t) {
			refused(what, none, grants, api.ErrNil)
		}
	}
	for _, grants := range wrong {
		refused("a module", m.Module, grants, api.ErrGrant)
	}
	for _, grants := range fine {
		watchOf(t, m, grants...)
	}
}

// P26.1: a Start at every number of instructions of another run: the state that DOC.md says, one frame; the points stay, and their numbers go on.
func TestStart(t *testing.T) {
	m := sample(t)
	for fuel := range 12 {
		for _, at := range list(0, 6) {
			x := begun(t, m, 0, list(9))
			x.Go(fuel, nil)
			wantAdd(t, x, point(api.PointAt, 8), 0)
			wantAdd(t, x, point(api.PointCall, 8), 1)
			wantOK(t, x.Drop(0))
			data := x.State().Data
			wantOK(t, x.Start(at, list(7, 8)))
			for i, one := range append(list(0xFFFFFFFF, 7, 8), make([]uint32, 13)...) {
				put(data, m.top()+4*uint32(i), one)
			}
			wantHeld(t, x, held{
				state:  api.State{Life: api.LifeRuns, PC: at, SP: m.top(), Data: data},
				points: []numbered{{1, point(api.PointCall, 8)}},
				trail:  []api.Frame{{Begin: at}},
			})
			wantAdd(t, x, point(api.PointAt, 7), 2)
		}
	}
}

// P26.1, R2: what Start refuses, in its order; and state, trail and points stay.
func TestStartErrors(t *testing.T) {
	x := begun(t, sample(t), 0, nil)
	wantAdd(t, x, point(api.PointAt, 9), 0)
	x.Go(7, nil)
	before := heldBy(x)
	for _, count := range []int{0, 1, 15, 16, 17, 1000} {
		for _, at := range list(1, 5, 7, 10, 11, 16384, 0x10000, 0x80000000, 0xFFFFFFFF) {
			wantErr(t, "Start", x.Start(at, make([]uint32, count)), api.ErrEntry)
		}
		if count > 15 {
			wantErr(t, "Start", x.Start(6, make([]uint32, count)), api.ErrArgs)
		}
	}
	wantHeld(t, x, before)
	if len(before.trail) != 2 {
		t.Errorf("trail %v", before.trail)
	}
	wantOK(t, x.Start(6, make([]uint32, 15)))
}

// lived gives a state of each Life that fits the sample module, inside its second procedure where it may be.
func lived(m made) map[api.Life]api.State {
	data := make([]byte, m.size())
	for i := range data {
		data[i] = byte(i * 7)
	}
	return map[api.Life]api.State{
		api.LifeIdle:  {Life: api.LifeIdle, SP: m.top(), Data: data},
		api.LifeRuns:  {Life: api.LifeRuns, PC: 8, SP: m.top() - 16, Ops: list(3, 188), Data: data},
		api.LifeDone:  {Life: api.LifeDone, PC: 9, SP: m.top(), Ops: list(8), Data: data, Value: 7},
		api.LifeFault: {Life: api.LifeFault, PC: 9, SP: m.top() - 8, Ops: list(8), Data: data, Fault: api.FaultReturn},
	}
}

// P26.1, P26.4: a Put of a state of each Life, whatever was ahead: the state, and one frame at LifeRuns and LifeFault, else none; the points stay.
func TestPut(t *testing.T) {
	m := sample(t)
	frames := map[api.Life][]api.Frame{api.LifeIdle: nil, api.LifeDone: nil, api.LifeRuns: {{Begin: 6}}, api.LifeFault: {{Begin: 6}}}
	for fuel := range 12 {
		for life, s := range lived(m) {
			x := begun(t, m, 0, nil)
			wantAdd(t, x, point(api.PointAt, 8), 0)
			x.Go(fuel, nil)
			wantOK(t, x.Put(s))
			want := held{state: s, points: []numbered{{0, point(api.PointAt, 8)}}, trail: frames[life]}
			wantHeld(t, x, want)
			wantErr(t, "Put", x.Put(api.State{}), api.ErrState)
			bad := clonedState(s)
			bad.SP += 2
			wantErr(t, "Put", x.Put(bad), api.ErrState)
			wantHeld(t, x, want)
		}
	}
}

// P26.1: a run may go on in another watch: State and Put, and what it comes to is the same.
func TestPutGoesOn(t *testing.T) {
	for cut := range 10 {
		x, y := begun(t, sample(t), 0, nil), watchOf(t, sample(t))
		x.Go(cut, nil)
		wantOK(t, y.Put(x.State()))
		r, _ := x.Go(100, nil)
		wantGo(t, y, 100, nil, r)
		wantState(t, y, x.State())
	}
}

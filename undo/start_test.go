package undo_test

import (
	"reflect"
	"slices"
	"testing"

	"playpen/api"
	"playpen/undo"
	"playpen/verify"
)

// P25.1: a run's state is the module's fresh one, for each k; nothing is kept, nothing undone, and there is no event.
func TestNew(t *testing.T) {
	for k := 8; k <= 16; k++ {
		data := make([]byte, 1<<k-128-5)
		for i := range data {
			data[i] = byte(i*37 + 5)
		}
		m := mustTake(t, api.Image{Code: lines(t, "enter 4, const 0, load4, leave 4"), Data: data, Zero: 5, Stack: 128})
		x := runOf(t, m, 9)
		fresh := held{state: api.State{Life: api.LifeIdle, SP: uint32(1<<k - 64), Data: slices.Concat(data, make([]byte, 133))}}
		wantHeld(t, x, fresh)
		wantErr(t, "Back(1)", x.Back(1), api.ErrBack)
		wantErr(t, "Again(1)", x.Again(1), api.ErrAgain)
		wantOK(t, x.Back(0))
		wantOK(t, x.Again(0))
		wantResult(t, x, 9, nil, api.Result{End: api.EndIdle})
		wantHeld(t, x, fresh)
		wantOK(t, x.Start(0, nil))
		ahead := x.State()
		wantResult(t, x, 9, nil, api.Result{End: api.EndDone, At: 3, Value: word(data, 0), Used: 4})
		wantOK(t, x.Back(4))
		wantHeld(t, x, held{state: ahead, past: api.Past{Again: 4}})
	}
}

// P25.1, R2: what New refuses, in its order: a module that is none, then grants that may not be, then a number that may not be.
func TestNewErrors(t *testing.T) {
	crowd := make([]api.Grant, 65)
	for i := range crowd {
		crowd[i] = grant(uint32(i), 0)
	}
	fine := [][]api.Grant{nil, {}, {grant(1<<31-1, 15), grant(0, 0)}, crowd[:64]}
	wrong := [][]api.Grant{crowd, {grant(1<<31, 0)}, {grant(1, 16)}, {grant(1, -1)}, {grant(7, 2), grant(3, 1), grant(7, 2)}}
	keeps, bad := []int{1, 2, 65535, 65536}, []int{0, -1, 65537, -65536, 1<<63 - 1, -1 << 63}
	refused := func(what string, m *verify.Module, grants []api.Grant, keep int, want api.Errno) {
		t.Helper()
		if x, err := undo.New(m, grants, keep); x != nil || err != want {
			t.Errorf("%s: New(%v, %d): %v, %d, want %d", what, grants, keep, x != nil, err, want)
		}
	}
	m := sample(t)
	for _, keep := range append(keeps, bad...) {
		for _, grants := range append(fine, wrong...) {
			for what, none := range unmade(t) {
				refused(what, none, grants, keep, api.ErrNil)
			}
		}
		for _, grants := range wrong {
			refused("a module", m.Module, grants, keep, api.ErrGrant)
		}
	}
	for _, grants := range fine {
		for _, keep := range bad {
			refused("a module", m.Module, grants, keep, api.ErrKeep)
		}
		for _, keep := range keeps {
			runOf(t, m, keep, grants...)
		}
	}
}

// P25.2: a Start at every number of instructions of another run, and behind going back and on again: the state that DOC.md says, nothing kept, nothing undone, no event; what was stored ahead stays, but for the first frame.
func TestStart(t *testing.T) {
	m := asker(t)
	for fuel := range 14 {
		for back := range fuel + 1 {
			for again := range back + 1 {
				p := newPair(t, m, 20, grant(1, 1), grant(2, 2))
				wantOK(t, p.Start(0, list(5)))
				p.Go(fuel, []api.Reply{reply(1, write(3, 9)), reply(2), reply(3)})
				if p.Back(back) != api.OK || p.Again(again) != api.OK {
					t.Fatalf("%d, %d, %d: %+v", fuel, back, again, p.run.Past())
				}
				data := p.run.State().Data
				wantOK(t, p.Start(0, list(7, 8)))
				for i, one := range append(list(0xFFFFFFFF, 7, 8), make([]uint32, 13)...) {
					put(data, m.top()+4*uint32(i), one)
				}
				wantHeld(t, p.run, held{state: api.State{Life: api.LifeRuns, SP: m.top(), Data: data}})
				wantErr(t, "Back(1)", p.Back(1), api.ErrBack)
				wantErr(t, "Again(1)", p.Again(1), api.ErrAgain)
			}
		}
	}
}

// P25.2: a run that has met a fault, or is at its end, may be started anew; Back leads no further than to the Start.
func TestStartBehindTheEnd(t *testing.T) {
	m := module(t, 128, "0 enter 4, 1 const 1, 2 leave 4, 3 enter 4, 4 break")
	p := newPair(t, m, 9)
	for range 3 {
		for _, at := range list(0, 3) {
			wantOK(t, p.Start(at, list(at)))
			p.Go(9, nil)
			if s := p.run.State(); s.Life == api.LifeRuns {
				t.Fatal(shown(s))
			}
			used := 3 - int(at)/3
			wantErr(t, "Back", p.Back(used+1), api.ErrBack)
			wantPast(t, p.run, used, 0)
		}
	}
}

// P25.2, R2: what Start refuses, in its order; and what is kept, undone and told stays.
func TestStartErrors(t *testing.T) {
	x := runOf(t, asker(t), 6, grant(1, 1), grant(2, 2))
	wantOK(t, x.Start(0, list(5)))
	x.Go(11, replies(1, 2))
	wantOK(t, x.Back(2))
	before := heldBy(x)
	for _, count := range []int{0, 1, 15, 16, 17, 1000} {
		for _, at := range list(1, 12, 13, 16384, 0x10000, 0x80000000, 0xFFFFFFFF) {
			wantErr(t, "Start", x.Start(at, make([]uint32, count)), api.ErrEntry)
		}
		if count > 15 {
			wantErr(t, "Start", x.Start(0, make([]uint32, count)), api.ErrArgs)
		}
	}
	wantHeld(t, x, before)
	if before.past != (api.Past{Back: 4, Again: 2}) || len(before.events) != 2 {
		t.Errorf("%+v, %v", before.past, before.events)
	}
	wantOK(t, x.Again(2))
	wantOK(t, x.Back(6))
}

// The chapter's Ways: a Run has no methods but those that it names.
func TestMethods(t *testing.T) {
	var names []string
	kind := reflect.TypeFor[*undo.Run]()
	for i := range kind.NumMethod() {
		names = append(names, kind.Method(i).Name)
	}
	slices.Sort(names)
	if !slices.Equal(names, []string{"Again", "Back", "Events", "Go", "Past", "Start", "State"}) {
		t.Error(names)
	}
}

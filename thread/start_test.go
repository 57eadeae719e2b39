package thread_test

import (
	"testing"

	"playpen/api"
)

// P24.3: from each Life, with 0, 1, 2, 14 and 15 arguments: a run begins at each procedure; the rest of the data stays.
func TestStartFromEveryLife(t *testing.T) {
	m := module(t, 128, "0 enter 4, 1 const 1, 2 const 2, 3 eq 5, 4 goto 1, 5 const 3, 6 leave 4, 7 enter 8, 8 const 9, 9 leave 8")
	for life, s := range lived(m) {
		for _, at := range list(0, 7) {
			for _, count := range []int{0, 1, 2, 14, 15} {
				p := crewOf(t, m)
				wantOK(t, p.Put(s))
				args := many(16)[1 : 1+count]
				if err := p.Start(at, args); err != api.OK {
					t.Fatalf("Life %d: Start(%d, %x): %d", life, at, args, err)
				}
				want := filled(256)
				put(want, 192, api.DoneMark)
				for i := range uint32(15) {
					put(want, 196+4*i, 0)
					if i < uint32(count) {
						put(want, 196+4*i, args[i])
					}
				}
				wantState(t, p, api.State{Life: api.LifeRuns, PC: at, SP: 192, Data: want})
			}
		}
	}
}

// P24.3: an index at which no procedure begins: ErrEntry, with too many arguments too; too many arguments: ErrArgs; and nothing has changed.
func TestStartErrors(t *testing.T) {
	m := turning(t)
	for life, s := range lived(m) {
		x := crewOf(t, m)
		wantOK(t, x.Put(s))
		for _, count := range []int{0, 1, 15, 16, 17, 1000} {
			for _, at := range list(1, 2, 6, 7, 8, 16384, 0x10000, 0x80000000, 0xFFFFFFFF) {
				if err := x.Start(at, make([]uint32, count)); err != api.ErrEntry {
					t.Errorf("Life %d: Start(%d, %d arguments): %d", life, at, count, err)
				}
			}
			if count > 15 {
				if err := x.Start(0, make([]uint32, count)); err != api.ErrArgs {
					t.Errorf("Life %d: Start(0, %d arguments): %d", life, count, err)
				}
			}
		}
		wantState(t, x, s)
	}
}

// P24.3: a run may be started in the midst of another one, behind its end, behind a fault, while it waits; what it has left of data is there, but for the first frame.
func TestStartAgain(t *testing.T) {
	m := module(t, 128, "0 enter 4, 1 const 5, 2 local 8, 3 load4, 4 store1, 5 const -1, 6 call, 7 leave 4, 8 enter 4, 9 const 5, 10 load1, 11 leave 4")
	for fuel := range 10 {
		for _, given := range [][]api.Reply{nil, replies(3)} {
			for _, grants := range [][]api.Grant{nil, {grant(0, 0)}} {
				p := crewOf(t, m, grants...)
				wantOK(t, p.Start(0, list(200, 7)))
				p.Go(fuel, given)
				stored := uint32(0)
				if fuel > 4 {
					stored = 200
				}
				wantOK(t, p.Start(8, list(1)))
				if data := p.State().Data; word(data, 196) != 1 || word(data, 200) != 0 {
					t.Errorf("fuel %d: %v", fuel, data[192:])
				}
				wantResult(t, p, 100, nil, api.Result{End: api.EndDone, At: 11, Value: stored, Used: 4})
			}
		}
	}
}

// P24.3: states that fit, of each Life, are laid in as they are, the whole of them; the run goes on from there.
func TestPut(t *testing.T) {
	m := turning(t)
	for from, first := range lived(m) {
		for to, s := range lived(m) {
			x := crewOf(t, m)
			wantOK(t, x.Put(first))
			s.Data = filled(300)[44:]
			wantOK(t, x.Put(s))
			wantState(t, x, s)
			r, err := x.Go(1, nil)
			if err != api.OK || r.End != map[api.Life]api.End{api.LifeIdle: api.EndIdle, api.LifeRuns: api.EndFuel, api.LifeDone: api.EndDone, api.LifeFault: api.EndFault}[to] {
				t.Errorf("Life %d behind %d: %+v, %d", to, from, r, err)
			}
		}
	}
}

// P24.3: states that do not fit, for each rule of 'What it holds', are refused; and nothing has changed.
func TestPutOfWhatDoesNotFit(t *testing.T) {
	m := turning(t)
	x := crewOf(t, m)
	for _, held := range lived(m) {
		wantOK(t, x.Put(held))
		refused := func(what string, turn func(s *api.State)) {
			t.Helper()
			for life, s := range lived(m) {
				s = clonedState(s)
				turn(&s)
				if err := x.Put(s); err != api.ErrState {
					t.Errorf("Life %d, %s: %d", life, what, err)
				}
				wantState(t, x, held)
			}
		}
		refused("fewer bytes", func(s *api.State) { s.Data = s.Data[:255] })
		refused("more bytes", func(s *api.State) { s.Data = make([]byte, 512) })
		refused("no bytes", func(s *api.State) { s.Data = nil })
		refused("SP below", func(s *api.State) { s.SP = 124 })
		refused("SP above", func(s *api.State) { s.SP = 196 })
		refused("SP between words", func(s *api.State) { s.SP = 190 })
		refused("another Life", func(s *api.State) { s.Life = 4 })
		refused("PC behind the code", func(s *api.State) { s.PC = 7 })
		refused("too many words", func(s *api.State) { s.Ops = many(65) })
		refused("a fault that is none", func(s *api.State) { s.Fault = 9 })
		refused("a value, and a fault", func(s *api.State) { s.Value, s.Fault = 1, 1 })
		refused("a zero state", func(s *api.State) { *s = api.State{} })
	}
	for what, s := range map[string]api.State{
		"a word too few":        stands(m, 3, 188, 1),
		"an idle PC":            {PC: 1, SP: 192, Data: make([]byte, 256)},
		"an idle SP":            {SP: 188, Data: make([]byte, 256)},
		"idle words":            {SP: 192, Ops: list(1), Data: make([]byte, 256)},
		"done at no leave":      {Life: api.LifeDone, PC: 5, SP: 192, Data: make([]byte, 256)},
		"a value while it runs": {Life: api.LifeRuns, PC: 1, SP: 188, Data: make([]byte, 256), Value: 1},
		"a fault of no kind":    {Life: api.LifeFault, PC: 1, SP: 188, Data: make([]byte, 256)},
	} {
		if err := x.Put(s); err != api.ErrState {
			t.Errorf("%s: %d", what, err)
		}
	}
}

// P24.3: scattered states, some of them turned in a part or two, of this module or another: those that fit are taken, and the others refused.
func TestPutScattered(t *testing.T) {
	taken := map[api.Errno]int{}
	for round := range uint64(400) {
		d := newDice(60000 + round)
		m, other := d.someModule(t, 20), d.someModule(t, 20)
		p := crewOf(t, m, d.someGrants()...)
		for range 20 {
			s := d.someState(m)
			for range d.upTo(2) {
				turnPart(d, m, &s)
			}
			taken[p.Put(s)]++
			p.Go(d.upTo(5), d.someReplies(3))
			taken[p.Put(d.someState(other))]++
		}
	}
	if taken[api.OK] < 2000 || taken[api.ErrState] < 2000 {
		t.Errorf("%v", taken)
	}
}

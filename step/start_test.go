package step_test

import (
	"bytes"
	"testing"

	"playpen/api"
	"playpen/step"
)

// P18.3: from each Life, with 0, 1, 14 and 15 arguments: a run begins; the rest of the data stays.
func TestStartFromEveryLife(t *testing.T) {
	m, states := lived(t)
	for what, s := range states {
		for _, at := range list(0, 8, 12) {
			for _, count := range []int{0, 1, 2, 14, 15} {
				args := many(16)[1 : 1+count]
				want := append(bytes.Clone(s.Data[:192]), 0xFF, 0xFF, 0xFF, 0xFF)
				for _, arg := range args {
					want = append(want, byte(arg), byte(arg>>8), byte(arg>>16), byte(arg>>24))
				}
				want = append(want, make([]byte, 256-len(want))...)
				got := checkStart(t, m, s, at, args)
				if !sameState(got, api.State{Life: api.LifeRuns, PC: at, SP: 192, Data: want}) {
					t.Errorf("%s: Start(%d, %x): %+v", what, at, args, got)
				}
			}
		}
	}
}

// P18.3: an index at which no procedure begins: ErrEntry, with too many arguments too; too many arguments: ErrArgs.
func TestStartErrors(t *testing.T) {
	m, states := lived(t)
	wrong := list(15, 16, 16384, 0x10000, 0x80000000, 0xFFFFFFFF, 0x1000C)
	for at := range uint32(15) {
		if at != 0 && at != 8 && at != 12 {
			wrong = append(wrong, at)
		}
	}
	refused := func(what string, s api.State, at uint32, count int, want api.Errno) {
		t.Helper()
		if got, err := step.Start(m.Module, s, at, make([]uint32, count)); err != want || !isZero(got) {
			t.Errorf("%s: Start(%d, %d arguments): %+v, %d, want %d", what, at, count, got, err, want)
		}
	}
	for what, s := range states {
		unfit := clonedState(s)
		unfit.SP++
		for _, count := range []int{0, 15, 16, 17, 1000} {
			for _, at := range wrong {
				refused(what, s, at, count, api.ErrEntry)
				refused(what, unfit, at, count, api.ErrState)
			}
			for _, at := range list(0, 8, 12) {
				refused(what, unfit, at, count, api.ErrState)
				if count > 15 {
					refused(what, s, at, count, api.ErrArgs)
				}
			}
			for none, module := range unmade(t) {
				for _, at := range list(0, 1) {
					for _, s := range []api.State{s, unfit, {}} {
						if got, err := step.Start(module, s, at, make([]uint32, count)); err != api.ErrNil || !isZero(got) {
							t.Errorf("%s: %+v, %d", none, got, err)
						}
					}
				}
			}
		}
	}
}

// P18.3: a start that is refused for each rule of 'What it holds'.
func TestStartOfWhatDoesNotFit(t *testing.T) {
	for round := range uint64(500) {
		d := newDice(70000 + round)
		m := d.someModule(t, 20)
		for range 20 {
			s := d.someState(m)
			for range d.upTo(2) {
				turnPart(d, m, &s)
			}
			checkStart(t, m, s, uint32(d.upTo(1)*d.upTo(len(m.image.Code))), make([]uint32, d.upTo(20)))
		}
	}
}

// P18.1: a fresh state is the same, whatever was done with states ahead of it.
func TestFreshAgain(t *testing.T) {
	m := mustTake(t, api.Image{Code: lines(t, "enter 4, const 5, const 9, store1, const 3, leave 4"), Data: []byte{1, 2, 3}, Zero: 300, Stack: 100})
	want := api.State{SP: 512 - 64, Data: append([]byte{1, 2, 3}, make([]byte, 509)...)}
	for range 3 {
		if s := fresh(t, m); !sameState(s, want) || !step.Fits(m.Module, s) {
			t.Fatalf("%+v", s)
		}
		s := tookMany(t, m, begun(t, m, 0, 1, 2), 6)
		if s.Life != api.LifeDone || s.Data[5] != 9 || word(s.Data, 512-64) != api.DoneMark {
			t.Fatalf("%+v", s)
		}
		spoilState(s)
	}
	for what, none := range unmade(t) {
		if s, err := step.Fresh(none); err != api.ErrNil || !isZero(s) {
			t.Errorf("%s: %+v, %d", what, s, err)
		}
	}
}

// P18.3: what a run has left of data is there at the next Start, but for the first frame.
func TestStartKeepsData(t *testing.T) {
	m := module(t, 128, "0 enter 4, 1 const 5, 2 const 9, 3 store1, 4 const 3, 5 leave 4")
	s := tookMany(t, m, begun(t, m, 0, 1, 2, 3), 6)
	s = checkStart(t, m, s, 0, list(8))
	if s.Data[5] != 9 || word(s.Data, 192) != api.DoneMark || word(s.Data, 196) != 8 || word(s.Data, 200) != 0 || s.Value != 0 || s.PC != 0 {
		t.Errorf("%+v", s)
	}
}

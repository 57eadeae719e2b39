package step_test

import (
	"testing"

	"playpen/api"
	"playpen/step"
)

// lived gives a module with procedures of several needs and instructions that are not reached, and a state of each Life that fits it.
func lived(t testing.TB) (made, map[string]api.State) {
	t.Helper()
	m := module(t, 128, `0 enter 8, 1 const 1, 2 const 2, 3 const 3, 4 add, 5 add, 6 leave 8, 7 leave 8,
		8 enter 4, 9 goto 9, 10 const 1, 11 leave 4, 12 enter 4, 13 const 6, 14 leave 4`)
	data := filled(256)
	return m, map[string]api.State{
		"idle":  {Life: api.LifeIdle, SP: 192, Data: data},
		"runs":  {Life: api.LifeRuns, PC: 4, SP: 184, Ops: list(1, 2, 3), Data: data},
		"done":  {Life: api.LifeDone, PC: 6, SP: 192, Data: data, Value: 7},
		"fault": {Life: api.LifeFault, PC: 4, SP: 184, Ops: list(1, 2, 3), Data: data, Fault: api.FaultDeep},
	}
}

// wantFits wants a state of a module to fit it, or not; by the book too.
func wantFits(t *testing.T, m made, what string, s api.State, fits bool) {
	t.Helper()
	if got := step.Fits(m.Module, s); got != fits || m.fits(s) != fits {
		t.Errorf("%s: Life %d, PC %d, SP %d, %d words, %d bytes, Value %d, Fault %d: %t, want %t", what, s.Life, s.PC, s.SP, len(s.Ops), len(s.Data), s.Value, s.Fault, got, fits)
	}
}

// P18.2: rule 1, broken alone and kept: Data has 2^k bytes.
func TestFitsData(t *testing.T) {
	m, states := lived(t)
	for what, s := range states {
		wantFits(t, m, what, s, true)
		for _, count := range []int{0, 1, 128, 255, 257, 512, 1 << 16} {
			s.Data = make([]byte, count)
			wantFits(t, m, what, s, false)
		}
		s.Data = nil
		wantFits(t, m, what, s, false)
		s.Data = make([]byte, 256, 1000)
		wantFits(t, m, what, s, true)
	}
}

// P18.2: rule 2: SP is a multiple of 4 within the program stack.
func TestFitsSP(t *testing.T) {
	m, states := lived(t)
	for what, s := range states {
		for sp := range uint32(300) {
			s.SP = sp
			fits := sp%4 == 0 && sp >= 128 && sp <= 192
			if s.Life == api.LifeIdle {
				fits = sp == 192
			}
			wantFits(t, m, what, s, fits)
		}
		for _, sp := range list(0x80000000+192, 0xFFFFFFFC, 0xFFFFFFFF, 0x10000+192, 256+192) {
			s.SP = sp
			wantFits(t, m, what, s, false)
		}
	}
	for _, x := range someBounds() {
		m := module(t, x.stack, "enter 4, const 1, leave 4")
		s := stands(t, m, 1, x.top)
		for _, sp := range list(x.bottom, x.bottom-4, x.bottom+4, x.bottom+1, x.bottom-1, x.top, x.top+4, x.top-4, x.top-1, x.top+1) {
			s.SP = sp
			wantFits(t, m, "bounds", s, sp%4 == 0 && sp >= x.bottom && sp <= x.top)
		}
	}
}

// P18.2: rule 3: each Life, at each index, with each number of words.
func TestFitsLife(t *testing.T) {
	m, states := lived(t)
	depths := map[uint32]int{0: 0, 1: 0, 2: 1, 3: 2, 4: 3, 5: 2, 6: 1, 8: 0, 9: 0, 12: 0, 13: 0, 14: 1}
	indices := list(0xFFFFFFFF, 0x80000004, 0x10004, 16384)
	for pc := range uint32(18) {
		indices = append(indices, pc)
	}
	for what, s := range states {
		for _, pc := range indices {
			for count := range 70 {
				depth, reached := depths[pc]
				need := map[bool]int{true: 3, false: 1}[pc < 8]
				if pc == 8 || pc == 9 {
					need = 0
				}
				fits := reached && count >= depth && count-depth+need <= 64
				switch s.Life {
				case api.LifeIdle:
					fits = pc == 0 && count == 0
				case api.LifeDone:
					fits = (pc == 6 || pc == 14) && count+need <= 64
				}
				s.PC, s.Ops = pc, many(count)
				wantFits(t, m, what, s, fits)
			}
		}
	}
}

// P18.2: no other Life fits.
func TestFitsNoOtherLife(t *testing.T) {
	m, states := lived(t)
	for what, s := range states {
		for life := 4; life < 256; life++ {
			s.Life = api.Life(life)
			wantFits(t, m, what, s, false)
		}
	}
}

// P18.2: rule 4: Value is 0 but at LifeDone, Fault a kind at LifeFault, and 0 else.
func TestFitsEnd(t *testing.T) {
	m, states := lived(t)
	for what, s := range states {
		for kind := range 256 {
			s.Fault = api.Fault(kind)
			fits := kind == 0
			if s.Life == api.LifeFault {
				fits = kind >= 1 && kind <= 8
			}
			wantFits(t, m, what, s, fits)
		}
	}
	_, states = lived(t)
	for what, s := range states {
		for _, value := range list(0, 1, 7, 0x80000000, 0xFFFFFFFF) {
			s.Value = value
			wantFits(t, m, what, s, value == 0 || s.Life == api.LifeDone)
		}
	}
}

// P18.2: nothing hangs on what the words and the bytes are, nor on spare room.
func TestFitsAnyWords(t *testing.T) {
	for round := range uint64(300) {
		d := newDice(50000 + round)
		m := d.someModule(t, 20)
		for range 10 {
			s := d.someState(m)
			wantFits(t, m, "as it was", s, true)
			for i := range s.Ops {
				s.Ops[i] = d.word()
			}
			for i := range s.Data {
				s.Data[i] = byte(d.word())
			}
			s.Ops = append(s.Ops, 1, 2, 3)[:len(s.Ops)]
			wantFits(t, m, "with other words", s, true)
		}
	}
}

// P18.2: scattered states of which one part or two are turned, against the book; a state of one module against another one.
func TestFitsScattered(t *testing.T) {
	fitting := map[bool]int{}
	for round := range uint64(1500) {
		d := newDice(60000 + round)
		m, other := d.someModule(t, 20), d.someModule(t, 20)
		for range 30 {
			s := d.someState(m)
			for range d.upTo(2) {
				turnPart(d, m, &s)
			}
			wantFits(t, m, "turned", s, m.fits(s))
			wantFits(t, other, "of another module", s, other.fits(s))
			fitting[m.fits(s)]++
			fitting[other.fits(s)]++
		}
	}
	if fitting[true] < 10000 || fitting[false] < 10000 {
		t.Errorf("%v", fitting)
	}
}

// turnPart makes one part of a state another one.
func turnPart(d *dice, m made, s *api.State) {
	switch d.upTo(6) {
	case 0:
		s.Life = api.Life(d.upTo(5))
	case 1:
		s.PC = []uint32{uint32(d.upTo(len(m.image.Code) + 1)), s.PC + 1, s.PC - 1, d.word()}[d.upTo(3)]
	case 2:
		s.SP = []uint32{d.someSP(m), s.SP + 4, s.SP - 4, s.SP + 1, d.word()}[d.upTo(4)]
	case 3:
		s.Ops = many(d.edgy(0, 65))
	case 4:
		s.Data = make([]byte, []int{len(s.Data), len(s.Data) - 1, len(s.Data) + 1, 2 * len(s.Data)}[d.upTo(3)])
	case 5:
		s.Value = uint32(d.upTo(2))
	case 6:
		s.Fault = api.Fault(d.upTo(10))
	}
}

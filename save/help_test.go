package save_test

import (
	"bytes"
	"slices"
	"strconv"
	"strings"
	"testing"

	"playpen/api"
	"playpen/isa"
	"playpen/step"
	"playpen/verify"
)

// lines gives the code of a text like "0 enter 4, 1 const 7, leave 4"; the indices may be left out, but may not be wrong.
func lines(t testing.TB, source string) []api.Instr {
	t.Helper()
	var code []api.Instr
	for line := range strings.SplitSeq(source, ",") {
		words := strings.Fields(line)
		if index, err := strconv.Atoi(words[0]); err == nil {
			if index != len(code) {
				t.Fatalf("%q stands at %d", line, len(code))
			}
			words = words[1:]
		}
		op, is := isa.ByWord(words[0])
		if !is {
			t.Fatalf("%q is no instruction", line)
		}
		one := api.Instr{Op: op}
		if len(words) > 1 {
			arg, err := strconv.ParseInt(words[1], 0, 64)
			if err != nil {
				t.Fatal(err)
			}
			one.Arg = uint32(arg)
		}
		code = append(code, one)
	}
	return code
}

// made is a module, and its image.
type made struct {
	*verify.Module
	image api.Image
}

// size tells how many bytes the data segment has, top and bottom the greatest and the least SP.
func (m made) size() int { return 1 << m.Bits() }

func (m made) top() uint32 { return uint32(m.size()) - 64 }

func (m made) bottom() uint32 { return uint32(m.size()) - m.image.Stack }

// fresh gives the module's fresh state, by hand.
func (m made) fresh() api.State {
	data := make([]byte, m.size())
	copy(data, m.image.Data)
	return api.State{SP: m.top(), Data: data}
}

// mustTake gives the module of an image that is well formed.
func mustTake(t testing.TB, im api.Image) made {
	t.Helper()
	m, at, err := verify.Take(im)
	if m == nil || err != api.OK {
		t.Fatalf("Take(%v): %d, %d", im, at, err)
	}
	return made{m, im}
}

// sample gives a module without data, of 256 bytes; its last instruction is not reached.
func sample(t testing.TB) made {
	t.Helper()
	return mustTake(t, api.Image{Code: lines(t, "0 enter 8, 1 const 1, 2 const 2, 3 add, 4 leave 8, 5 enter 4, 6 break, 7 break"), Stack: 128})
}

// shorter gives the same module with a word less on its program stack: another one, with states that fit both.
func shorter(t testing.TB) made {
	t.Helper()
	im := sample(t).image
	im.Stack -= 4
	return mustTake(t, im)
}

// asker gives a module with data that calls itself, makes system calls, loads and stores.
func asker(t testing.TB) made {
	t.Helper()
	return mustTake(t, api.Image{
		Code: lines(t, `0 enter 12, 1 local 16, 2 load4, 3 const 0, 4 eq 16,
			5 local 16, 6 load4, 7 const 1, 8 sub, 9 arg 0, 10 const 0, 11 call,
			12 arg 0, 13 const -2, 14 call, 15 leave 12,
			16 const 4, 17 const -3, 18 call, 19 store4, 20 const 2, 21 load1, 22 leave 12`),
		Data: []byte("never at rest"), Zero: 300, Stack: 256,
		Names: []api.Export{{Name: "main", At: 0}},
	})
}

// filler gives a module of 65536 bytes that writes words all over its data.
func filler(t testing.TB) made {
	t.Helper()
	return mustTake(t, api.Image{
		Code: lines(t, `0 enter 8, 1 local 0, 2 const 0, 3 store4,
			4 local 0, 5 load4, 6 dup, 7 const 7, 8 mul, 9 store4,
			10 local 0, 11 local 0, 12 load4, 13 const 1009, 14 add, 15 store4,
			16 local 0, 17 load4, 18 const 65000, 19 ltu 4, 20 const 1, 21 leave 8`),
		Data: bytes.Repeat([]byte{1, 2, 3}, 99), Zero: 60000, Stack: 4096,
	})
}

// deep gives a module whose one procedure needs all 64 words, and goes round for ever by a jump.
func deep(t testing.TB) made {
	t.Helper()
	source := "0 enter 4, 1 const 1, " + strings.Repeat("const 0, ", 63) + strings.Repeat("add, ", 63) + "128 dup, 129 const 0, 130 eq 132, 131 jump, 132 leave 4"
	return mustTake(t, api.Image{Code: lines(t, source), Jumps: list(1), Stack: 64, Data: []byte{9}})
}

// modules gives all of them.
func modules(t testing.TB) []made {
	t.Helper()
	return []made{sample(t), shorter(t), asker(t), filler(t), deep(t)}
}

// unmade gives modules that are none.
func unmade(t testing.TB) map[string]*verify.Module {
	t.Helper()
	byHand := *sample(t).Module
	return map[string]*verify.Module{"nil": nil, "zero": {}, "a copy by hand": &byHand}
}

// stands gives a state that runs, stands at an instruction, and has the fresh data.
func stands(m made, pc, sp uint32, ops ...uint32) api.State {
	s := m.fresh()
	s.Life, s.PC, s.SP, s.Ops = api.LifeRuns, pc, sp, ops
	return s
}

// lived gives a state of each Life that fits the sample, with other data than the fresh ones.
func lived(t testing.TB) []api.State {
	t.Helper()
	m := sample(t)
	states := []api.State{
		{SP: 192},
		{Life: api.LifeRuns, PC: 3, SP: 184, Ops: list(1, 0x89ABCDEF)},
		{Life: api.LifeDone, PC: 4, SP: 192, Ops: list(77), Value: 0x12345678},
		{Life: api.LifeFault, PC: 6, SP: 128, Ops: list(5, 6, 7), Fault: api.FaultBreak},
		{Life: api.LifeFault, PC: 4, SP: 188, Ops: list(5), Fault: api.FaultSyscall},
	}
	for i := range states {
		states[i].Data = filled(m.size())
		if !step.Fits(m.Module, states[i]) {
			t.Fatalf("state %d does not fit", i)
		}
	}
	return states
}

// misfits gives states that do not fit the sample, each in one part.
func misfits(t testing.TB) map[string]api.State {
	t.Helper()
	all := map[string]api.State{"none": {}}
	add := func(what string, base int, change func(s *api.State)) {
		s := clonedState(lived(t)[base])
		change(&s)
		if step.Fits(sample(t).Module, s) {
			t.Fatalf("%s fits", what)
		}
		all[what] = s
	}
	add("a Life that is none", 1, func(s *api.State) { s.Life = 4 })
	add("the greatest Life", 0, func(s *api.State) { s.Life = 255 })
	add("PC that is not reached", 1, func(s *api.State) { s.PC = 7 })
	add("PC beyond the code", 1, func(s *api.State) { s.PC = 8 })
	add("PC of an idle one", 0, func(s *api.State) { s.PC = 1 })
	add("PC of one that is done", 2, func(s *api.State) { s.PC = 3 })
	add("SP that is odd", 1, func(s *api.State) { s.SP++ })
	add("SP too low", 1, func(s *api.State) { s.SP = 124 })
	add("SP too high", 1, func(s *api.State) { s.SP = 196 })
	add("SP of an idle one", 0, func(s *api.State) { s.SP = 188 })
	add("too few words", 1, func(s *api.State) { s.Ops = list(1) })
	add("too many words", 1, func(s *api.State) { s.Ops = make([]uint32, 65) })
	add("far too many words", 1, func(s *api.State) { s.Ops = make([]uint32, 65535) })
	add("a word of an idle one", 0, func(s *api.State) { s.Ops = list(1) })
	add("a value of a run", 1, func(s *api.State) { s.Value = 1 })
	add("a fault of a run", 1, func(s *api.State) { s.Fault = 1 })
	add("no fault", 3, func(s *api.State) { s.Fault = 0 })
	add("a fault that is none", 3, func(s *api.State) { s.Fault = 9 })
	return all
}

func list(words ...uint32) []uint32 { return words }

func write(at uint32, b ...byte) api.Write { return api.Write{At: at, Bytes: b} }

// filled gives so many bytes, each another than its neighbours.
func filled(count int) []byte {
	b := make([]byte, count)
	for i := range b {
		b[i] = byte(i*37 + i/256*11 + 5)
	}
	return b
}

// turned gives a state with bytes turned at some places.
func turned(s api.State, places ...int) api.State {
	s = clonedState(s)
	for _, at := range places {
		s.Data[at] ^= 0xA5
	}
	return s
}

// evens gives every second place.
func evens(count int) []int {
	var places []int
	for at := 0; at < count; at += 2 {
		places = append(places, at)
	}
	return places
}

// sameState holds two states against each other; nothing in a list is nil or no elements.
func sameState(a, b api.State) bool {
	return a.Life == b.Life && a.PC == b.PC && a.SP == b.SP && slices.Equal(a.Ops, b.Ops) && bytes.Equal(a.Data, b.Data) && a.Value == b.Value && a.Fault == b.Fault
}

// isZero tells whether a state is the one that stands beside an error.
func isZero(s api.State) bool { return sameState(s, api.State{}) }

// clonedState gives the same with lists of its own.
func clonedState(s api.State) api.State {
	s.Ops, s.Data = slices.Clone(s.Ops), slices.Clone(s.Data)
	return s
}

// spoil writes over all of a list, its spare room too.
func spoil[E any](all []E, with E) {
	all = all[:cap(all)]
	for i := range all {
		all[i] = with
	}
}

// dice gives numbers from all over, always the same ones.
type dice struct{ state uint64 }

func newDice(start uint64) *dice { return &dice{state: start*0xBF58476D1CE4E5B9 + 0x9E3779B97F4A7C15} }

func (d *dice) word() uint32 {
	d.state += 0x9E3779B97F4A7C15
	x := d.state
	x = (x ^ x>>30) * 0xBF58476D1CE4E5B9
	x = (x ^ x>>27) * 0x94D049BB133111EB
	return uint32((x ^ x>>31) >> 32)
}

func (d *dice) upTo(most int) int { return int(uint64(d.word()) * uint64(most+1) >> 32) }

// one gives one of a list.
func one[E any](d *dice, all []E) E { return all[d.upTo(len(all)-1)] }

// someData gives data of a module: few bytes other than the fresh ones, many, all.
func (d *dice) someData(m made) []byte {
	data := m.fresh().Data
	switch d.upTo(5) {
	case 0:
	case 1:
		for i := range data {
			data[i] = byte(d.word())
		}
	default:
		for range 1 + d.upTo(9) {
			at := d.upTo(len(data) - 1)
			for i := range data[at:min(len(data), at+1+d.upTo(5))] {
				data[at+i] = byte(d.word() >> d.upTo(8))
			}
		}
	}
	for _, at := range []int{0, len(data) - 1} {
		data[at] ^= byte(d.upTo(1) * d.upTo(255))
	}
	return data
}

// someState gives a state that fits a module, of any Life.
func (d *dice) someState(m made) api.State {
	var reached, leaves []uint32
	for at := range uint32(m.Count()) {
		if m.Depth(at) >= 0 {
			reached = append(reached, at)
			if m.image.Code[at].Op == api.OpLeave {
				leaves = append(leaves, at)
			}
		}
	}
	s := api.State{Life: api.Life(d.upTo(3)), PC: one(d, reached), SP: m.bottom() + 4*uint32(d.upTo(int(m.top()-m.bottom())/4)), Data: d.someData(m)}
	least := m.Depth(s.PC)
	switch s.Life {
	case api.LifeIdle:
		return api.State{SP: m.top(), Data: s.Data}
	case api.LifeDone:
		s.PC, s.Value, least = one(d, leaves), d.word()>>d.upTo(31), 0
	case api.LifeFault:
		s.Fault = api.Fault(1 + d.upTo(7))
	}
	proc, _ := m.ProcOf(s.PC)
	most := least + 64 - proc.Need
	for range []int{least, most, least + d.upTo(most-least)}[d.upTo(2)] {
		s.Ops = append(s.Ops, d.word()>>d.upTo(31))
	}
	return s
}

// near gives a state that fits a module and is not far from another one: the same, with other data, or of another Life with nearly the same data.
func (d *dice) near(m made, s api.State) api.State {
	to := d.someState(m)
	switch d.upTo(3) {
	case 0:
		return clonedState(s)
	case 1:
		to = clonedState(s)
	case 2:
		to.Data = slices.Clone(s.Data)
	}
	for range d.upTo(4) {
		to.Data[d.upTo(len(to.Data)-1)] = byte(d.word())
	}
	return to
}

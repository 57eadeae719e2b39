package step_test

import (
	"bytes"
	"slices"
	"strconv"
	"strings"
	"testing"

	"playpen/api"
	"playpen/isa"
	"playpen/step"
	"playpen/verify"
)

func in(op api.Op, arg uint32) api.Instr { return api.Instr{Op: op, Arg: arg} }

// figureOf gives a word's figure, to the base 10 or 16, with or without a sign.
func figureOf(t testing.TB, s string) uint32 {
	t.Helper()
	n, err := strconv.ParseInt(s, 0, 64)
	if err != nil {
		t.Fatal(err)
	}
	return uint32(n)
}

// lines gives the code of a text like "0 enter 4, 1 const 7, leave 4"; the indices may be left out, but may not be wrong.
func lines(t testing.TB, source string) []api.Instr {
	t.Helper()
	var code []api.Instr
	for line := range strings.SplitSeq(source, ",") {
		words := strings.Fields(line)
		if index, err := strconv.Atoi(words[0]); err == nil {
			if index != len(code) {
				t.Fatalf("%q stands at %d", line, len(code))
			}
			words = words[1:]
		}
		op, is := isa.ByWord(words[0])
		if !is {
			t.Fatalf("%q is no instruction", line)
		}
		one := in(op, 0)
		if len(words) > 1 {
			one.Arg = figureOf(t, words[1])
		}
		code = append(code, one)
	}
	return code
}

// times gives a text of so many of the same instruction, each with a comma behind it.
func times(count int, line string) string {
	return strings.Repeat(line+", ", count)
}

// made is a module, and the book of the same image.
type made struct {
	*verify.Module
	*book
}

// mustTake gives the module of an image that is well formed.
func mustTake(t testing.TB, im api.Image) made {
	t.Helper()
	m, at, err := verify.Take(im)
	if m == nil || err != api.OK {
		t.Fatalf("Take(%v): %d, %d", im, at, err)
	}
	return made{m, bookOf(im)}
}

// module gives the module of a text's code, with a stack and jumps.
func module(t testing.TB, stack uint32, source string, jumps ...uint32) made {
	t.Helper()
	return mustTake(t, api.Image{Code: lines(t, source), Jumps: jumps, Stack: stack})
}

// sample gives the module of the chapter's examples.
func sample(t testing.TB) made {
	t.Helper()
	return mustTake(t, api.Image{
		Code:  lines(t, "0 enter 8, 1 const 12, 2 const 4, 3 divi, 4 leave 8, 5 enter 4, 6 const 0xFFFFFFFD, 7 call, 8 leave 4"),
		Stack: 128,
		Names: []api.Export{{Name: "a", At: 0}, {Name: "b", At: 5}},
	})
}

func grant(number uint32, args int) api.Grant { return api.Grant{Number: number, Args: args} }

func reply(value uint32, writes ...api.Write) api.Reply {
	return api.Reply{Value: value, Writes: writes}
}

func write(at uint32, b ...byte) api.Write { return api.Write{At: at, Bytes: b} }

// tooMany and tooLong give replies that do not fit.
func tooMany() api.Reply { return api.Reply{Writes: make([]api.Write, 17)} }

func tooLong() api.Reply { return reply(1, write(0), write(0, make([]byte, 257)...)) }

// unmade gives modules that are none.
func unmade(t testing.TB) map[string]*verify.Module {
	t.Helper()
	byHand := *sample(t).Module
	return map[string]*verify.Module{"nil": nil, "zero": {}, "a copy by hand": &byHand}
}

// fresh gives a module's fresh state.
func fresh(t testing.TB, m made) api.State {
	t.Helper()
	s, err := step.Fresh(m.Module)
	if err != api.OK {
		t.Fatalf("Fresh: %d", err)
	}
	return s
}

// begun gives the state behind a Start from the fresh one.
func begun(t testing.TB, m made, at uint32, args ...uint32) api.State {
	t.Helper()
	s, err := step.Start(m.Module, fresh(t, m), at, args)
	if err != api.OK {
		t.Fatalf("Start(%d, %v): %d", at, args, err)
	}
	return s
}

// stands gives a state that stands at an instruction, with SP and words on the operand stack.
func stands(t testing.TB, m made, pc, sp uint32, ops ...uint32) api.State {
	t.Helper()
	s := fresh(t, m)
	s.Life, s.PC, s.SP, s.Ops = api.LifeRuns, pc, sp, ops
	if !step.Fits(m.Module, s) {
		t.Fatalf("PC %d, SP %d, Ops %v: the state does not fit", pc, sp, ops)
	}
	return s
}

// filled gives so many bytes, each another than its neighbours.
func filled(count int) []byte {
	b := make([]byte, count)
	for i := range b {
		b[i] = byte(i*37 + i/256*11 + 5)
	}
	return b
}

// filledState gives the same state with other data than noughts.
func filledState(s api.State) api.State {
	s.Data = filled(len(s.Data))
	return s
}

// took takes one instruction without grants.
func took(t testing.TB, m made, s api.State) api.State {
	t.Helper()
	next, turn := check(t, m, nil, s, nil)
	if !sameTurn(turn, api.Turn{Took: true}) {
		t.Fatalf("PC %d: %+v", s.PC, turn)
	}
	return next
}

// tookMany takes so many instructions, each without a fault.
func tookMany(t testing.TB, m made, s api.State, count int) api.State {
	t.Helper()
	for range count {
		if s = took(t, m, s); s.Life == api.LifeFault {
			t.Fatalf("PC %d: fault %d", s.PC, s.Fault)
		}
	}
	return s
}

// wantFault wants the instruction to meet a fault that leaves everything else.
func wantFault(t testing.TB, m made, s api.State, kind api.Fault) {
	t.Helper()
	want := clonedState(s)
	want.Life, want.Fault = api.LifeFault, kind
	if got := took(t, m, s); !sameState(got, want) {
		t.Errorf("PC %d, SP %d, Ops %x: Life %d, Fault %d, PC %d, SP %d, Ops %x; want the fault %d", s.PC, s.SP, s.Ops, got.Life, got.Fault, got.PC, got.SP, got.Ops, kind)
	}
}

// sameState holds two states against each other; nothing in a list is nil or no elements.
func sameState(a, b api.State) bool {
	return a.Life == b.Life && a.PC == b.PC && a.SP == b.SP && slices.Equal(a.Ops, b.Ops) && bytes.Equal(a.Data, b.Data) && a.Value == b.Value && a.Fault == b.Fault
}

// isZero tells whether a state is the one that stands beside an error.
func isZero(s api.State) bool { return sameState(s, api.State{}) }

func sameEvent(a, b api.Event) bool {
	return a.At == b.At && a.Number == b.Number && slices.Equal(a.Args, b.Args) && a.Value == b.Value
}

func sameTurn(a, b api.Turn) bool {
	return a.Took == b.Took && a.Waits == b.Waits && a.Made == b.Made && sameEvent(a.Event, b.Event)
}

// sameImage holds two images against each other.
func sameImage(a, b api.Image) bool {
	return slices.Equal(a.Code, b.Code) && slices.Equal(a.Jumps, b.Jumps) && bytes.Equal(a.Data, b.Data) &&
		a.Zero == b.Zero && a.Stack == b.Stack && slices.Equal(a.Names, b.Names)
}

// clonedState gives the same with lists of its own.
func clonedState(s api.State) api.State {
	s.Ops, s.Data = slices.Clone(s.Ops), slices.Clone(s.Data)
	return s
}

// clonedReplies gives the same with lists of its own.
func clonedReplies(list []api.Reply) []api.Reply {
	list = slices.Clone(list)
	for i := range list {
		list[i].Writes = slices.Clone(list[i].Writes)
		for j := range list[i].Writes {
			list[i].Writes[j].Bytes = slices.Clone(list[i].Writes[j].Bytes)
		}
	}
	return list
}

// sameReplies holds two lists of replies against each other.
func sameReplies(a, b []api.Reply) bool {
	return slices.EqualFunc(a, b, func(x, y api.Reply) bool {
		return x.Value == y.Value && slices.EqualFunc(x.Writes, y.Writes, func(v, w api.Write) bool { return v.At == w.At && bytes.Equal(v.Bytes, w.Bytes) })
	})
}

// spoil writes over all of a list, its spare room too.
func spoil[E any](list []E, with E) {
	list = list[:cap(list)]
	for i := range list {
		list[i] = with
	}
}

// spoilState writes over the lists of a state.
func spoilState(s api.State) {
	spoil(s.Ops, 0x77777777)
	spoil(s.Data, 0x77)
}

// word gives the word from a place on, the lowest byte first; no byte of it lies behind the data's end.
func word(data []byte, at uint32) uint32 {
	return uint32(data[at]) | uint32(data[at+1])<<8 | uint32(data[at+2])<<16 | uint32(data[at+3])<<24
}

// put lays a word down likewise.
func put(data []byte, at, x uint32) {
	copy(data[at:], []byte{byte(x), byte(x >> 8), byte(x >> 16), byte(x >> 24)})
}

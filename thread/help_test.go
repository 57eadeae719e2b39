package thread_test

import (
	"bytes"
	"slices"
	"strconv"
	"strings"
	"testing"

	"playpen/api"
	"playpen/isa"
	"playpen/run"
	"playpen/thread"
	"playpen/verify"
)

func in(op api.Op, arg uint32) api.Instr { return api.Instr{Op: op, Arg: arg} }

// figureOf gives a word's figure, to the base 10 or 16, with or without a sign.
func figureOf(t testing.TB, s string) uint32 {
	t.Helper()
	n, err := strconv.ParseInt(s, 0, 64)
	if err != nil {
		t.Fatal(err)
	}
	return uint32(n)
}

// lines gives the code of a text like "0 enter 4, 1 const 7, leave 4"; the indices may be left out, but may not be wrong.
func lines(t testing.TB, source string) []api.Instr {
	t.Helper()
	var code []api.Instr
	for line := range strings.SplitSeq(source, ",") {
		words := strings.Fields(line)
		if index, err := strconv.Atoi(words[0]); err == nil {
			if index != len(code) {
				t.Fatalf("%q stands at %d", line, len(code))
			}
			words = words[1:]
		}
		one := in(wordOf(t, words[0]), 0)
		if len(words) > 1 {
			one.Arg = figureOf(t, words[1])
		}
		code = append(code, one)
	}
	return code
}

// wordOf gives the operation of a word.
func wordOf(t testing.TB, word string) api.Op {
	t.Helper()
	op, is := isa.ByWord(word)
	if !is {
		t.Fatalf("%q is no operation", word)
	}
	return op
}

// times gives a text of so many of the same instruction, each with a comma behind it.
func times(count int, line string) string {
	return strings.Repeat(line+", ", count)
}

// made is a module, and its image.
type made struct {
	*verify.Module
	image api.Image
}

// size tells how many bytes the data segment has, top and bottom the greatest and the least SP.
func (m made) size() uint32 { return 1 << m.Bits() }

func (m made) top() uint32 { return m.size() - 64 }

func (m made) bottom() uint32 { return m.size() - m.image.Stack }

// mustTake gives the module of an image that is well formed.
func mustTake(t testing.TB, im api.Image) made {
	t.Helper()
	m, at, err := verify.Take(im)
	if m == nil || err != api.OK {
		t.Fatalf("Take(%v): %d, %d", im, at, err)
	}
	return made{m, im}
}

// module gives the module of a text's code, with a stack and jumps.
func module(t testing.TB, stack uint32, source string, jumps ...uint32) made {
	t.Helper()
	return mustTake(t, api.Image{Code: lines(t, source), Jumps: jumps, Stack: stack})
}

// example gives the module of the chapter's examples.
func example(t testing.TB) made {
	t.Helper()
	return module(t, 128, `0 enter 8, 1 const 2, 2 const 3, 3 add, 4 arg 0, 5 local 12, 6 load4, 7 const 9, 8 lti 12, 9 const 0,
		10 call, 11 pop, 12 const 0, 13 leave 8`)
}

// machine gives a machine of a module and grants.
func machine(t testing.TB, m made, grants ...api.Grant) *thread.Machine {
	t.Helper()
	x, err := thread.New(m.Module, grants)
	if x == nil || err != api.OK {
		t.Fatalf("New: %d", err)
	}
	return x
}

// using gives a machine that uses threaded code.
func using(t testing.TB, m made, code api.Threaded, grants ...api.Grant) *thread.Machine {
	t.Helper()
	x, place, err := thread.Use(m.Module, grants, code)
	if x == nil || place != 0 || err != api.OK {
		t.Fatalf("Use(%v): %d, %d", code, place, err)
	}
	return x
}

// unmade gives modules that are none.
func unmade(t testing.TB) map[string]*verify.Module {
	t.Helper()
	byHand := *example(t).Module
	return map[string]*verify.Module{"nil": nil, "zero": {}, "a copy by hand": &byHand}
}

// noMachines gives machines that are none; the copies are of such as are on their way, with a log.
func noMachines(t testing.TB) map[string]*thread.Machine {
	t.Helper()
	m := example(t)
	x, y := machine(t, m, grant(1, 1)), using(t, m, singles(m), grant(1, 1))
	for _, one := range []*thread.Machine{x, y} {
		one.Log(true)
		wantOK(t, one.Start(0, list(20)))
		one.Go(12, nil)
	}
	byHand, another := *x, *y
	return map[string]*thread.Machine{"nil": nil, "zero": {}, "a copy by hand": &byHand, "a copy of another": &another}
}

func wantOK(t testing.TB, err api.Errno) {
	t.Helper()
	if err != api.OK {
		t.Fatalf("refused: %d", err)
	}
}

// list gives words.
func list(words ...uint32) []uint32 { return words }

// many gives so many words, each another one.
func many(count int) []uint32 {
	words := make([]uint32, count)
	for i := range words {
		words[i] = uint32(i) * 0x01010101
	}
	return words
}

func grant(number uint32, args int) api.Grant { return api.Grant{Number: number, Args: args} }

func reply(value uint32, writes ...api.Write) api.Reply {
	return api.Reply{Value: value, Writes: writes}
}

// replies gives replies of values, without writes.
func replies(values ...uint32) []api.Reply {
	var all []api.Reply
	for _, value := range values {
		all = append(all, reply(value))
	}
	return all
}

func write(at uint32, b ...byte) api.Write { return api.Write{At: at, Bytes: b} }

// tooMany and tooLong give replies that do not fit.
func tooMany() api.Reply { return api.Reply{Writes: make([]api.Write, 17)} }

func tooLong() api.Reply { return reply(1, write(0), write(0, make([]byte, 257)...)) }

// reads and writes give the touches of so many bytes from a place on, which do not go over the segment's end.
func reads(at, count uint32) []api.Touch { return touchesFrom(at, count, false) }

func writes(at, count uint32) []api.Touch { return touchesFrom(at, count, true) }

func touchesFrom(at, count uint32, write bool) []api.Touch {
	var all []api.Touch
	for i := range count {
		all = append(all, api.Touch{At: at + i, Write: write})
	}
	return all
}

// wantTouched wants a log to have just these touches.
func wantTouched(t testing.TB, x run.Engine, want ...[]api.Touch) {
	t.Helper()
	if got := x.Touched(); !slices.Equal(got, slices.Concat(want...)) {
		t.Errorf("touched: %v, want %v", got, slices.Concat(want...))
	}
}

// wantResult wants a Go to answer a result.
func wantResult(t testing.TB, x run.Engine, fuel int, given []api.Reply, want api.Result) {
	t.Helper()
	got, err := x.Go(fuel, given)
	if err != api.OK || !sameResult(got, want) {
		t.Errorf("Go(%d, %v): %+v, %d; want %+v", fuel, given, got, err, want)
	}
}

// wantState wants a machine to hold a state.
func wantState(t testing.TB, x run.Engine, want api.State) {
	t.Helper()
	if got := x.State(); !sameState(got, want) {
		t.Errorf("Life %d, PC %d, SP %d, Ops %x, Value %x, Fault %d, want Life %d, PC %d, SP %d, Ops %x, Value %x, Fault %d (or data)",
			got.Life, got.PC, got.SP, got.Ops, got.Value, got.Fault, want.Life, want.PC, want.SP, want.Ops, want.Value, want.Fault)
	}
}

// filled gives so many bytes, each another than its neighbours.
func filled(count uint32) []byte {
	b := make([]byte, count)
	for i := range b {
		b[i] = byte(i*37 + i/256*11 + 5)
	}
	return b
}

// stands gives a state of a module that stands at an instruction, with SP, words on the operand stack, and other data than noughts.
func stands(m made, pc, sp uint32, ops ...uint32) api.State {
	return api.State{Life: api.LifeRuns, PC: pc, SP: sp, Ops: ops, Data: filled(m.size())}
}

// word gives the word from a place on, the lowest byte first; no byte of it lies behind the data's end.
func word(data []byte, at uint32) uint32 {
	return uint32(data[at]) | uint32(data[at+1])<<8 | uint32(data[at+2])<<16 | uint32(data[at+3])<<24
}

// put lays a word down likewise.
func put(data []byte, at, x uint32) {
	copy(data[at:], []byte{byte(x), byte(x >> 8), byte(x >> 16), byte(x >> 24)})
}

// sameState holds two states against each other; nothing in a list is nil or no elements.
func sameState(a, b api.State) bool {
	return a.Life == b.Life && a.PC == b.PC && a.SP == b.SP && slices.Equal(a.Ops, b.Ops) && bytes.Equal(a.Data, b.Data) && a.Value == b.Value && a.Fault == b.Fault
}

func sameEvent(a, b api.Event) bool {
	return a.At == b.At && a.Number == b.Number && slices.Equal(a.Args, b.Args) && a.Value == b.Value
}

func sameEvents(a, b []api.Event) bool { return slices.EqualFunc(a, b, sameEvent) }

func sameResult(a, b api.Result) bool {
	return a.End == b.End && a.At == b.At && a.Value == b.Value && a.Fault == b.Fault && a.Used == b.Used && a.Replies == b.Replies &&
		sameEvents(a.Events, b.Events) && sameEvent(a.Ask, b.Ask)
}

// sameImage holds two images against each other.
func sameImage(a, b api.Image) bool {
	return slices.Equal(a.Code, b.Code) && slices.Equal(a.Jumps, b.Jumps) && bytes.Equal(a.Data, b.Data) &&
		a.Zero == b.Zero && a.Stack == b.Stack && slices.Equal(a.Names, b.Names)
}

// sameReplies holds two lists of replies against each other.
func sameReplies(a, b []api.Reply) bool {
	return slices.EqualFunc(a, b, func(x, y api.Reply) bool {
		return x.Value == y.Value && slices.EqualFunc(x.Writes, y.Writes, func(v, w api.Write) bool { return v.At == w.At && bytes.Equal(v.Bytes, w.Bytes) })
	})
}

// clonedState gives the same with lists of its own.
func clonedState(s api.State) api.State {
	s.Ops, s.Data = slices.Clone(s.Ops), slices.Clone(s.Data)
	return s
}

// clonedEvent gives the same with a list of its own.
func clonedEvent(e api.Event) api.Event {
	e.Args = slices.Clone(e.Args)
	return e
}

// clonedResult gives the same with lists of its own.
func clonedResult(r api.Result) api.Result {
	r.Ask, r.Events = clonedEvent(r.Ask), slices.Clone(r.Events)
	for i, e := range r.Events {
		r.Events[i] = clonedEvent(e)
	}
	return r
}

// clonedReplies gives the same with lists of its own.
func clonedReplies(all []api.Reply) []api.Reply {
	all = slices.Clone(all)
	for i := range all {
		all[i].Writes = slices.Clone(all[i].Writes)
		for j := range all[i].Writes {
			all[i].Writes[j].Bytes = slices.Clone(all[i].Writes[j].Bytes)
		}
	}
	return all
}

// spoil writes over all of a list, its spare room too.
func spoil[E any](all []E, with E) {
	all = all[:cap(all)]
	for i := range all {
		all[i] = with
	}
}

// spoilState writes over the lists of a state.
func spoilState(s api.State) {
	spoil(s.Ops, 0x77777777)
	spoil(s.Data, 0x77)
}

// spoilResult writes over the lists of a result.
func spoilResult(r api.Result) {
	for _, e := range r.Events {
		spoil(e.Args, 0x77777777)
	}
	spoil(r.Events, api.Event{At: 77})
	spoil(r.Ask.Args, 0x77777777)
}

// spoilReplies writes over the lists of replies.
func spoilReplies(all []api.Reply) {
	for _, r := range all {
		for _, w := range r.Writes {
			spoil(w.Bytes, 0x77)
		}
		spoil(r.Writes, write(77, 7))
	}
	spoil(all, reply(77))
}

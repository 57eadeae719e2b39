package watch_test

import (
	"bytes"
	"iter"
	"slices"
	"strconv"
	"strings"
	"testing"

	"playpen/api"
	"playpen/isa"
	"playpen/verify"
	"playpen/watch"
)

func in(op api.Op, arg uint32) api.Instr { return api.Instr{Op: op, Arg: arg} }

// figureOf gives a word's figure, to the base 10 or 16, with or without a sign.
func figureOf(t testing.TB, s string) uint32 {
	t.Helper()
	n, err := strconv.ParseInt(s, 0, 64)
	if err != nil {
		t.Fatal(err)
	}
	return uint32(n)
}

// lines gives the code of a text like "0 enter 4, 1 const 7, leave 4"; the indices may be left out, but may not be wrong.
func lines(t testing.TB, source string) []api.Instr {
	t.Helper()
	var code []api.Instr
	for line := range strings.SplitSeq(source, ",") {
		words := strings.Fields(line)
		if index, err := strconv.Atoi(words[0]); err == nil {
			if index != len(code) {
				t.Fatalf("%q stands at %d", line, len(code))
			}
			words = words[1:]
		}
		op, is := isa.ByWord(words[0])
		if !is {
			t.Fatalf("%q is no operation", words[0])
		}
		one := in(op, 0)
		if len(words) > 1 {
			one.Arg = figureOf(t, words[1])
		}
		code = append(code, one)
	}
	return code
}

// made is a module, and its image.
type made struct {
	*verify.Module
	image api.Image
}

// size tells how many bytes the data segment has, top and bottom the greatest and the least SP.
func (m made) size() uint32 { return 1 << m.Bits() }

func (m made) top() uint32 { return m.size() - 64 }

func (m made) bottom() uint32 { return m.size() - m.image.Stack }

// mustTake gives the module of an image that is well formed.
func mustTake(t testing.TB, im api.Image) made {
	t.Helper()
	m, at, err := verify.Take(im)
	if m == nil || err != api.OK {
		t.Fatalf("Take(%v): %d, %d", im, at, err)
	}
	return made{m, im}
}

// module gives the module of a text's code, with a stack and jumps.
func module(t testing.TB, stack uint32, source string, jumps ...uint32) made {
	t.Helper()
	return mustTake(t, api.Image{Code: lines(t, source), Jumps: jumps, Stack: stack})
}

// sample gives the module of the chapter's examples.
func sample(t testing.TB) made {
	t.Helper()
	return module(t, 128, `0 enter 8, 1 const 41, 2 arg 0, 3 const 6, 4 call, 5 leave 8,
		6 enter 8, 7 local 12, 8 load4, 9 leave 8`)
}

// asker gives a module that makes the system calls 1, 2, 1, with a store between, and returns what the last one gives.
func asker(t testing.TB) made {
	t.Helper()
	return module(t, 128, `0 enter 16, 1 const 7, 2 arg 0, 3 const -2, 4 call, 5 arg 1, 6 const 40, 7 const -3, 8 call,
		9 store4, 10 const -2, 11 call, 12 leave 16`)
}

// nester gives a module that calls itself as often as its argument says, and then comes back: twelve instructions on the way in, seven at the turn, two on the way out of each call.
func nester(t testing.TB) made {
	t.Helper()
	return module(t, 1024, `0 enter 8, 1 local 12, 2 load4, 3 const 0, 4 eq 13, 5 local 12, 6 load4, 7 const 1, 8 sub, 9 arg 0, 10 const 0, 11 call,
		12 goto 14, 13 const 5, 14 leave 8`)
}

// counter gives a module that goes round and round, and counts in the word at 0: seven instructions a round.
func counter(t testing.TB) made {
	t.Helper()
	return module(t, 128, "0 enter 4, 1 const 0, 2 const 0, 3 load4, 4 const 1, 5 add, 6 store4, 7 goto 1")
}

// watchOf gives a watch of a module and grants.
func watchOf(t testing.TB, m made, grants ...api.Grant) *watch.Watch {
	t.Helper()
	x, err := watch.New(m.Module, grants)
	if x == nil || err != api.OK {
		t.Fatalf("New: %d", err)
	}
	return x
}

// begun gives a watch of a module and grants that has started a procedure.
func begun(t testing.TB, m made, at uint32, args []uint32, grants ...api.Grant) *watch.Watch {
	t.Helper()
	x := watchOf(t, m, grants...)
	wantOK(t, x.Start(at, args))
	return x
}

// unmade gives modules that are none.
func unmade(t testing.TB) map[string]*verify.Module {
	t.Helper()
	byHand := *sample(t).Module
	return map[string]*verify.Module{"nil": nil, "zero": {}, "a copy by hand": &byHand}
}

// noWatches gives watches that are none; the last one is a copy of one that is on its way, with points and frames.
func noWatches(t testing.TB) map[string]*watch.Watch {
	t.Helper()
	x := begun(t, sample(t), 0, nil)
	wantAdd(t, x, point(api.PointAt, 7), 0)
	wantAdd(t, x, point(api.PointAt, 9), 1)
	x.Go(9, nil)
	byHand := *x
	return map[string]*watch.Watch{"nil": nil, "zero": {}, "a copy by hand": &byHand}
}

func wantOK(t testing.TB, err api.Errno) {
	t.Helper()
	if err != api.OK {
		t.Fatalf("refused: %d", err)
	}
}

// wantErr wants a call to be refused just so.
func wantErr(t testing.TB, what string, err, want api.Errno) {
	t.Helper()
	if err != want {
		t.Errorf("%s: %d, want %d", what, err, want)
	}
}

// list gives words.
func list(words ...uint32) []uint32 { return words }

// many gives so many words, each another one.
func many(count int) []uint32 {
	words := make([]uint32, count)
	for i := range words {
		words[i] = uint32(i) * 0x01010101
	}
	return words
}

func grant(number uint32, args int) api.Grant { return api.Grant{Number: number, Args: args} }

func event(at, number, value uint32, args ...uint32) api.Event {
	return api.Event{At: at, Number: number, Args: args, Value: value}
}

func reply(value uint32, writes ...api.Write) api.Reply {
	return api.Reply{Value: value, Writes: writes}
}

// replies gives replies of values, without writes.
func replies(values ...uint32) []api.Reply {
	var all []api.Reply
	for _, value := range values {
		all = append(all, reply(value))
	}
	return all
}

func write(at uint32, b ...byte) api.Write { return api.Write{At: at, Bytes: b} }

// tooMany and tooLong give replies that do not fit.
func tooMany() api.Reply { return api.Reply{Writes: make([]api.Write, 17)} }

func tooLong() api.Reply { return reply(1, write(0), write(0, make([]byte, 257)...)) }

// point gives a point of a kind that names a place alone.
func point(kind api.PointKind, at uint32) api.Point { return api.Point{Kind: kind, At: at} }

// span gives a point of a kind that names a span.
func span(kind api.PointKind, at, count uint32) api.Point {
	return api.Point{Kind: kind, At: at, Len: count}
}

// when gives a point that waits for a word.
func when(at uint32, op api.Op, value uint32) api.Point {
	return api.Point{Kind: api.PointWhen, At: at, Op: op, Value: value}
}

// adds is a watch, or a pair.
type adds interface {
	Add(p api.Point) (int, api.Errno)
}

// wantAdd wants a point to be added, with a number.
func wantAdd(t testing.TB, x adds, p api.Point, number int) {
	t.Helper()
	if got, err := x.Add(p); err != api.OK || got != number {
		t.Fatalf("Add(%+v): %d, %d; want %d", p, got, err, number)
	}
}

// goOn is one of the calls that go on; those of Next take no fuel.
type goOn func(x *watch.Watch, fuel int, given []api.Reply) (api.Stop, api.Errno)

// ways gives the calls that go on, by their names.
func ways() map[string]goOn {
	return map[string]goOn{"Go": (*watch.Watch).Go, "Next": nextOf, "Over": (*watch.Watch).Over, "Out": (*watch.Watch).Out}
}

// nextOf is Next, whatever the fuel.
func nextOf(x *watch.Watch, _ int, given []api.Reply) (api.Stop, api.Errno) { return x.Next(given) }

// stopped gives a stop at which a run goes on.
func stopped(kind api.StopKind, number, used int, at uint32) api.Stop {
	return api.Stop{Kind: kind, Point: number, Result: api.Result{End: api.EndFuel, At: at, Used: used}}
}

// ended gives the stop of a Go that is at its end.
func ended(r api.Result) api.Stop { return api.Stop{Kind: api.StopEnd, Result: r} }

// wantStop wants a call that goes on to answer a stop.
func wantStop(t testing.TB, what string, got api.Stop, err api.Errno, want api.Stop) {
	t.Helper()
	if err != api.OK || !sameStop(got, want) {
		t.Errorf("%s: %+v, %d; want %+v", what, got, err, want)
	}
}

// wantGo, wantNext, wantOver and wantOut want these calls to answer a stop.
func wantGo(t testing.TB, x *watch.Watch, fuel int, given []api.Reply, want api.Stop) {
	t.Helper()
	got, err := x.Go(fuel, given)
	wantStop(t, "Go", got, err, want)
}

func wantNext(t testing.TB, x *watch.Watch, given []api.Reply, want api.Stop) {
	t.Helper()
	got, err := x.Next(given)
	wantStop(t, "Next", got, err, want)
}

func wantOver(t testing.TB, x *watch.Watch, fuel int, given []api.Reply, want api.Stop) {
	t.Helper()
	got, err := x.Over(fuel, given)
	wantStop(t, "Over", got, err, want)
}

func wantOut(t testing.TB, x *watch.Watch, fuel int, given []api.Reply, want api.Stop) {
	t.Helper()
	got, err := x.Out(fuel, given)
	wantStop(t, "Out", got, err, want)
}

// wantTrail wants a watch to tell just these frames, the innermost first.
func wantTrail(t testing.TB, x *watch.Watch, want ...api.Frame) {
	t.Helper()
	if got := x.Trail(); !slices.Equal(got, want) {
		t.Errorf("trail %v, want %v", got, want)
	}
}

// wantState wants a watch to hold a state.
func wantState(t testing.TB, x *watch.Watch, want api.State) {
	t.Helper()
	if got := x.State(); !sameState(got, want) {
		t.Errorf("%s\nwant %s", shown(got), shown(want))
	}
}

// numbered is a point and its number.
type numbered struct {
	number int
	point  api.Point
}

// pointsOf gives what an iterator of points goes through.
func pointsOf(all iter.Seq2[int, api.Point]) []numbered {
	var list []numbered
	for number, p := range all {
		list = append(list, numbered{number, p})
	}
	return list
}

// wantPoints wants a watch to have just these points.
func wantPoints(t testing.TB, x *watch.Watch, want ...numbered) {
	t.Helper()
	if got := pointsOf(x.Points()); !slices.Equal(got, want) {
		t.Errorf("points %v, want %v", got, want)
	}
}

// held is all that a watch tells.
type held struct {
	state  api.State
	points []numbered
	trail  []api.Frame
}

// heldBy gives what a watch tells, in memory of its own.
func heldBy(x *watch.Watch) held {
	return held{state: clonedState(x.State()), points: pointsOf(x.Points()), trail: slices.Clone(x.Trail())}
}

// wantHeld wants a watch to tell just this.
func wantHeld(t testing.TB, x *watch.Watch, want held) {
	t.Helper()
	wantState(t, x, want.state)
	wantPoints(t, x, want.points...)
	wantTrail(t, x, want.trail...)
}

// shown gives a state as text.
func shown(s api.State) string {
	words := []uint32{uint32(s.Life), s.PC, s.SP, s.Value, uint32(s.Fault)}
	names := []string{"Life ", ", PC ", ", SP ", ", Value ", ", Fault "}
	var b strings.Builder
	for i, word := range words {
		b.WriteString(names[i] + strconv.FormatUint(uint64(word), 10))
	}
	b.WriteString(", Ops")
	for _, word := range s.Ops {
		b.WriteString(" " + strconv.FormatUint(uint64(word), 16))
	}
	b.WriteString(", Data")
	for at, one := range s.Data {
		if one != 0 {
			b.WriteString(" " + strconv.Itoa(at) + ":" + strconv.Itoa(int(one)))
		}
	}
	return b.String()
}

// word gives the word from a place on, the lowest byte first; no byte of it lies behind the data's end.
func word(data []byte, at uint32) uint32 {
	return uint32(data[at]) | uint32(data[at+1])<<8 | uint32(data[at+2])<<16 | uint32(data[at+3])<<24
}

// put lays a word down likewise.
func put(data []byte, at, x uint32) {
	copy(data[at:], []byte{byte(x), byte(x >> 8), byte(x >> 16), byte(x >> 24)})
}

// sameState holds two states against each other; nothing in a list is nil or no elements.
func sameState(a, b api.State) bool {
	return a.Life == b.Life && a.PC == b.PC && a.SP == b.SP && slices.Equal(a.Ops, b.Ops) && bytes.Equal(a.Data, b.Data) && a.Value == b.Value && a.Fault == b.Fault
}

func sameEvent(a, b api.Event) bool {
	return a.At == b.At && a.Number == b.Number && slices.Equal(a.Args, b.Args) && a.Value == b.Value
}

func sameEvents(a, b []api.Event) bool { return slices.EqualFunc(a, b, sameEvent) }

func sameResult(a, b api.Result) bool {
	return a.End == b.End && a.At == b.At && a.Value == b.Value && a.Fault == b.Fault && a.Used == b.Used && a.Replies == b.Replies &&
		sameEvents(a.Events, b.Events) && sameEvent(a.Ask, b.Ask)
}

// sameStop holds two stops against each other.
func sameStop(a, b api.Stop) bool {
	return a.Kind == b.Kind && a.Point == b.Point && sameResult(a.Result, b.Result)
}

// sameHeld holds against each other what two watches tell.
func sameHeld(a, b held) bool {
	return sameState(a.state, b.state) && slices.Equal(a.points, b.points) && slices.Equal(a.trail, b.trail)
}

// sameImage holds two images against each other.
func sameImage(a, b api.Image) bool {
	return slices.Equal(a.Code, b.Code) && slices.Equal(a.Jumps, b.Jumps) && bytes.Equal(a.Data, b.Data) &&
		a.Zero == b.Zero && a.Stack == b.Stack && slices.Equal(a.Names, b.Names)
}

// sameReplies holds two lists of replies against each other.
func sameReplies(a, b []api.Reply) bool {
	return slices.EqualFunc(a, b, func(x, y api.Reply) bool {
		return x.Value == y.Value && slices.EqualFunc(x.Writes, y.Writes, func(v, w api.Write) bool { return v.At == w.At && bytes.Equal(v.Bytes, w.Bytes) })
	})
}

// clonedState gives the same with lists of its own.
func clonedState(s api.State) api.State {
	s.Ops, s.Data = slices.Clone(s.Ops), slices.Clone(s.Data)
	return s
}

// clonedEvents gives the same with lists of their own.
func clonedEvents(all []api.Event) []api.Event {
	all = slices.Clone(all)
	for i := range all {
		all[i].Args = slices.Clone(all[i].Args)
	}
	return all
}

// clonedResult gives the same with lists of its own.
func clonedResult(r api.Result) api.Result {
	r.Events, r.Ask.Args = clonedEvents(r.Events), slices.Clone(r.Ask.Args)
	return r
}

// clonedReplies gives the same with lists of its own.
func clonedReplies(all []api.Reply) []api.Reply {
	all = slices.Clone(all)
	for i := range all {
		all[i].Writes = slices.Clone(all[i].Writes)
		for j := range all[i].Writes {
			all[i].Writes[j].Bytes = slices.Clone(all[i].Writes[j].Bytes)
		}
	}
	return all
}

// spoil writes over all of a list, its spare room too.
func spoil[E any](all []E, with E) {
	all = all[:cap(all)]
	for i := range all {
		all[i] = with
	}
}

// spoilState writes over the lists of a state.
func spoilState(s api.State) {
	spoil(s.Ops, 0x77777777)
	spoil(s.Data, 0x77)
}

// spoilEvents writes over events and their lists.
func spoilEvents(all []api.Event) {
	for _, e := range all {
		spoil(e.Args, 0x77777777)
	}
	spoil(all, api.Event{At: 77})
}

// spoilResult writes over the lists of a result.
func spoilResult(r api.Result) {
	spoilEvents(r.Events)
	spoil(r.Ask.Args, 0x77777777)
}

// spoilReplies writes over the lists of replies.
func spoilReplies(all []api.Reply) {
	for _, r := range all {
		for _, w := range r.Writes {
			spoil(w.Bytes, 0x77)
		}
		spoil(r.Writes, write(77, 7))
	}
	spoil(all, reply(77))
}

package fuse_test

import (
	"bytes"
	"slices"
	"testing"

	"playpen/alu"
	"playpen/api"
	"playpen/fuse"
	"playpen/run"
	"playpen/step"
	"playpen/verify"
)

// load4 gives the word at an address of the data, each byte masked by itself.
func load4(data []byte, at uint32) uint32 {
	word := uint32(0)
	for i := range uint32(4) {
		word |= uint32(data[(at+i)%uint32(len(data))]) << (8 * i)
	}
	return word
}

// store4 gives the data with a word at an address.
func store4(data []byte, at, word uint32) []byte {
	data = slices.Clone(data)
	for i := range uint32(4) {
		data[(at+i)%uint32(len(data))] = byte(word >> (8 * i))
	}
	return data
}

// lastBy gives the last instruction of a thing that ends by one that counts, as the thing itself says it.
func lastBy(next api.Fused) api.Instr {
	switch next.Kind {
	case api.FuseOne:
		return in(next.Op, next.A)
	case api.FuseBranchConst, api.FuseBranchLocal:
		return in(next.Op, next.B)
	case api.FuseArgConst, api.FuseArgLocal:
		return in(api.OpArg, next.B)
	case api.FuseCallConst:
		return in(api.OpCall, 0)
	}
	return in(next.Op, 0)
}

// ahead gives the state ahead of a thing's last instruction, as the thing itself says it: with its constant or its local word put on.
func ahead(s api.State, next api.Fused) api.State {
	word := next.A
	switch next.Kind {
	case api.FuseOne:
		return s
	case api.FuseArgLocal, api.FuseLoadLocal:
		word = s.SP + next.A
	case api.FuseOpLocal, api.FuseBranchLocal:
		word = load4(s.Data, s.SP+next.A)
	}
	s.PC = next.At + next.Len - 1
	s.Ops = append(slices.Clone(s.Ops), word)
	return s
}

// behind gives the state behind a thing that only puts on, goes, does nothing or bumps, as the thing itself says it.
func behind(s api.State, next api.Fused) (api.State, bool) {
	s.PC = next.At + next.Len
	switch next.Kind {
	case api.FusePush:
		s.Ops = append(slices.Clone(s.Ops), next.A)
	case api.FuseGoto:
		s.PC = next.A
	case api.FuseBump:
		at := s.SP + next.A
		word, err := alu.Binary(next.Op, load4(s.Data, at), next.B)
		s.Data = store4(s.Data, at, word)
		return s, err == api.OK
	case api.FuseNone:
	default:
		return s, false
	}
	return s, true
}

// checkOnTheWay takes all steps of a thing but the last, and wants them to go from one instruction to the next and to write nothing.
func checkOnTheWay(t testing.TB, m *verify.Module, s api.State, next api.Fused, grants []api.Grant, replies []api.Reply) api.State {
	t.Helper()
	got := s
	for i := range next.Len - 1 {
		after, turn, err := step.Step(m, grants, got, replies)
		if err != api.OK || !turn.Took || turn.Made || after.Life != api.LifeRuns || after.PC != next.At+i+1 {
			t.Fatalf("%v, step %d: %+v, %d, Life %d, Fault %d, PC %d", next, i, turn, err, after.Life, after.Fault, after.PC)
		}
		if after.SP != s.SP || !bytes.Equal(after.Data, s.Data) {
			t.Fatalf("%v, step %d: SP or the data became others", next, i)
		}
		got = after
	}
	return got
}

// checkEngine has the first engine go up to a thing's last instruction, and wants nothing to be written, not even by the same bytes.
func checkEngine(t testing.TB, m *verify.Module, s, want api.State, next api.Fused, grants []api.Grant, replies []api.Reply) {
	t.Helper()
	x, _ := run.New(m, grants)
	x.Log(true)
	if err := x.Put(s); err != api.OK {
		t.Fatalf("Put: %d", err)
	}
	r, err := x.Go(int(next.Len)-1, replies)
	// A system call that comes last would wait for a reply: then the fuel is not told.
	if err != api.OK || r.End != api.EndFuel && r.End != api.EndReply || r.Used != int(next.Len)-1 || len(r.Events) != 0 || !sameState(x.State(), want) {
		t.Fatalf("%v: %+v, %d", next, r, err)
	}
	if slices.ContainsFunc(x.Touched(), func(one api.Touch) bool { return one.Write }) {
		t.Fatalf("%v: something was written", next)
	}
}

// checkThing takes as many steps as a thing has instructions, from a state at its beginning, and wants what the thing says.
func checkThing(t testing.TB, m *verify.Module, s api.State, next api.Fused, grants []api.Grant, replies []api.Reply) {
	t.Helper()
	if !step.Fits(m, s) {
		t.Fatalf("the state at %d does not fit", s.PC)
	}
	got := checkOnTheWay(t, m, s, next, grants, replies)
	checkEngine(t, m, s, got, next, grants, replies)
	after, turn, err := step.Step(m, grants, got, replies)
	if want, is := behind(s, next); is {
		if err != api.OK || !turn.Took || !sameState(after, want) {
			t.Fatalf("%v: %+v, %d, %v; want %v", next, turn, err, after.Ops, want.Ops)
		}
		return
	}
	if last, _ := m.At(next.At + next.Len - 1); last != lastBy(next) {
		t.Fatalf("%v ends by %v", next, last)
	}
	if want := ahead(s, next); !sameState(got, want) {
		t.Fatalf("%v: ahead of the last instruction %x at %d, want %x at %d", next, got.Ops, got.PC, want.Ops, want.PC)
	}
	want, wantTurn, wantErr := step.Step(m, grants, ahead(s, next), replies)
	if !sameState(after, want) || turn.Took != wantTurn.Took || turn.Made != wantTurn.Made || turn.Waits != wantTurn.Waits || err != wantErr {
		t.Fatalf("%v: %+v, %d; want %+v, %d", next, turn, err, wantTurn, wantErr)
	}
}

// P22.4, P22.5: whatever the state is in which a thing begins, its instructions do what it says, one behind the other.
func TestThingIsItsInstructions(t *testing.T) {
	seen := map[api.FuseKind]int{}
	for round := range uint64(700) {
		d := newDice(round + 20000)
		m := d.someModule(t, 12)
		code := m.Image().Code
		for at := range uint32(len(code)) {
			if m.Depth(at) < 0 {
				continue
			}
			next, err := fuse.Longest(code, at, uint32(len(code)))
			if err != api.OK {
				t.Fatalf("Longest(%v, %d): %d", code, at, err)
			}
			checkThing(t, m, d.someState(m, at), next, d.someGrants(), d.someReplies())
			seen[next.Kind]++
		}
	}
	for _, k := range everyKind() {
		if seen[k] < 100 {
			t.Errorf("kind %d was taken %d times", k, seen[k])
		}
	}
}

// P22.5: the same for each shape that fits, the longest or not.
func TestEachShapeIsItsInstructions(t *testing.T) {
	for round := range uint64(60) {
		d := newDice(round + 30000)
		m := d.someModule(t, 12)
		code := m.Image().Code
		for at := range uint32(len(code)) {
			for _, k := range everyKind() {
				end := at + 1 + uint32(d.upTo(min(25, len(code)-int(at)-1)))
				if next, is := fuse.Fits(code, at, end, k); is && m.Depth(at) >= 0 {
					checkThing(t, m, d.someState(m, at), next, d.someGrants(), d.someReplies())
				}
			}
		}
	}
}

// P22.5: how many words a thing takes and leaves, as a whole: a row of it ends with as many as this table says.
func TestWordsOfThings(t *testing.T) {
	for _, c := range []struct {
		source string
		kind   api.FuseKind
		depth  int // ahead of the thing
		rest   int // behind it
	}{
		{"const 5, add", api.FuseOpConst, 1, 1},
		{"const 2, const 3, mul, sub", api.FuseOpConst, 1, 1},
		{"const 5, load2", api.FuseLoadConst, 0, 1},
		{"const 5, store4", api.FuseStoreConst, 1, 0},
		{"const 5, arg 2", api.FuseArgConst, 0, 0},
		{"const -1, call", api.FuseCallConst, 0, 1},
		{"const 5, eq 3", api.FuseBranchConst, 1, 0},
		{"local 4, load4, add", api.FuseOpLocal, 1, 1},
		{"local 4, load4, eq 3", api.FuseBranchLocal, 1, 0},
		{"local 4, load1", api.FuseLoadLocal, 0, 1},
		{"local 4, arg 0", api.FuseArgLocal, 0, 0},
		{"local 4, local 4, load4, const 1, add, store4", api.FuseBump, 0, 0},
		{"const 2, neg", api.FusePush, 0, 1},
		{"const 2, pop", api.FuseNone, 0, 0},
		{"const 2, const 2, eq 3", api.FuseGoto, 0, 0},
	} {
		row := lines(t, c.source)
		code := slices.Concat(lines(t, "enter 16, goto 5, nop, goto 4, break"), slices.Repeat(lines(t, "const 9"), c.depth), row, slices.Repeat(lines(t, "pop"), c.rest), lines(t, "break"))
		at, end := uint32(5+c.depth), uint32(5+c.depth+len(row))
		m := mustTake(t, api.Image{Code: code, Stack: 128})
		next, err := fuse.Longest(code, at, end)
		if err != api.OK || next.Kind != c.kind || int(next.Len) != len(row) {
			t.Fatalf("%s: %v, %d", c.source, next, err)
		}
		d := newDice(40000)
		for range 20 {
			s := d.someState(m, at)
			checkThing(t, m, s, next, []api.Grant{{Number: 0, Args: 1}}, []api.Reply{{Value: 7}})
			if got, want := wordsBehind(t, m, s, len(row)), len(s.Ops)-c.depth+c.rest; got != want {
				t.Fatalf("%s: %d words, want %d", c.source, got, want)
			}
		}
	}
}

// wordsBehind tells how many words are on the operand stack when so many instructions have been taken.
func wordsBehind(t testing.TB, m *verify.Module, s api.State, count int) int {
	t.Helper()
	x, _ := run.New(m, []api.Grant{{Number: 0, Args: 1}})
	if err := x.Put(s); err != api.OK {
		t.Fatalf("Put: %d", err)
	}
	r, err := x.Go(count, []api.Reply{{Value: 7}})
	if err != api.OK || r.Used != count {
		t.Fatalf("%+v, %d", r, err)
	}
	return len(x.State().Ops)
}

// P22.6: the things of a row lie one behind the other, from the stretch's beginning to its end or to what may not be, and are no more than its instructions.
func TestRowsAddUp(t *testing.T) {
	whole, cut := 0, 0
	for round := range uint64(2000) {
		d := newDice(round + 50000)
		code := d.someRow(40)
		at := uint32(d.upTo(39))
		end := at + 1 + uint32(d.upTo(39-int(at)))
		stop := at
		for stop < end && mayBe(code[stop]) == api.OK {
			stop++
		}
		count, next := 0, at
		for one := range fuse.Row(code, at, end) {
			if one.At != next || one.Len == 0 {
				t.Fatalf("%v, behind one that ends at %d", one, next)
			}
			next += one.Len
			count++
		}
		if next != stop || count > int(end-at) {
			t.Fatalf("Row(%v, %d, %d): %d things up to %d, want %d", code, at, end, count, next, stop)
		}
		if stop == end {
			whole++
		} else {
			cut++
		}
	}
	if whole < 500 || cut < 100 {
		t.Errorf("%d whole, %d cut", whole, cut)
	}
}

// P22.7: other instructions than those of the stretch change nothing, whatever they are.
func TestOnlyTheStretchCounts(t *testing.T) {
	for round := range uint64(300) {
		d := newDice(round + 60000)
		code := d.someRow(24)
		at := uint32(d.upTo(23))
		end := at + 1 + uint32(d.upTo(23-int(at)))
		want := told(code, at, end)
		for range 5 {
			other := d.someRow(24 + d.upTo(5))
			if d.upTo(2) == 0 {
				spoil(other, in(api.Op(d.word()), d.word()))
			}
			copy(other[at:end], code[at:end])
			if got := told(other, at, end); !slices.Equal(got, want) {
				t.Fatalf("%v, %d, %d: %v; with others around %v", code, at, end, want, got)
			}
		}
		// The stretch alone says the same, at another place.
		apart := told(code[at:end], 0, end-at)
		for i := range apart {
			if apart[i].Len > 0 {
				apart[i].At += at
			}
		}
		if !slices.Equal(apart, want) {
			t.Fatalf("%v, %d, %d: %v; alone %v", code, at, end, want, apart)
		}
	}
}

// told gives what all calls tell of a stretch.
func told(code []api.Instr, at, end uint32) []api.Fused {
	var list []api.Fused
	for _, k := range everyKind() {
		next, _ := fuse.Fits(code, at, end, k)
		list = append(list, next)
	}
	next, _ := fuse.Longest(code, at, end)
	return append(append(list, next), slices.Collect(fuse.Row(code, at, end))...)
}

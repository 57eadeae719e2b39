package fuse_test

import (
	"bytes"
	"slices"
	"strconv"
	"strings"
	"testing"

	"playpen/api"
	"playpen/fuse"
	"playpen/isa"
	"playpen/verify"
)

func in(op api.Op, arg uint32) api.Instr { return api.Instr{Op: op, Arg: arg} }

// lines gives the code of a text like "0 local 8, 1 load4, const 7"; the indices may be left out, but may not be wrong.
func lines(t testing.TB, source string) []api.Instr {
	t.Helper()
	var code []api.Instr
	for line := range strings.SplitSeq(source, ",") {
		words := strings.Fields(line)
		if index, err := strconv.Atoi(words[0]); err == nil {
			if index != len(code) {
				t.Fatalf("%q stands at %d", line, len(code))
			}
			words = words[1:]
		}
		op, is := isa.ByWord(words[0])
		if !is {
			t.Fatalf("%q is no instruction", line)
		}
		next := in(op, 0)
		if len(words) > 1 {
			arg, err := strconv.ParseInt(words[1], 0, 64)
			if err != nil {
				t.Fatal(err)
			}
			next.Arg = uint32(arg)
		}
		code = append(code, next)
	}
	return code
}

// times gives a text of so many of the same instruction, each with a comma behind it.
func times(count int, line string) string { return strings.Repeat(line+", ", count) }

// with gives the same code with another instruction at an index.
func with(code []api.Instr, at int, turned api.Instr) []api.Instr {
	code = slices.Clone(code)
	code[at] = turned
	return code
}

func thing(at, length uint32, k api.FuseKind, op api.Op, a, b uint32) api.Fused {
	return api.Fused{At: at, Len: length, Kind: k, Op: op, A: a, B: b}
}

// alone gives the thing of one instruction as it stands.
func alone(at uint32, one api.Instr) api.Fused {
	return thing(at, 1, api.FuseOne, one.Op, one.Arg, 0)
}

// everyKind gives the kinds of all shapes.
func everyKind() []api.FuseKind {
	var list []api.FuseKind
	for k := api.FuseOne; k <= api.FuseBump; k++ {
		list = append(list, k)
	}
	return list
}

// wantFits wants Fits to answer a thing for its kind, and the book too.
func wantFits(t testing.TB, code []api.Instr, at, end uint32, want api.Fused) {
	t.Helper()
	if got, is := checkFits(t, code, at, end, want.Kind); got != want || !is {
		t.Errorf("Fits(%v, %d, %d, %d): %v, %t, want %v", short(code), at, end, want.Kind, got, is, want)
	}
}

// wantUnfit wants Fits to answer that a shape does not fit, with nothing beside it.
func wantUnfit(t testing.TB, code []api.Instr, at, end uint32, k api.FuseKind) {
	t.Helper()
	if got, is := fuse.Fits(code, at, end, k); got != (api.Fused{}) || is {
		t.Errorf("Fits(%v, %d, %d, %d): %v, %t", short(code), at, end, k, got, is)
	}
}

// wantWhole wants one shape alone to fit the whole of some code that is made as it says, and Longest to answer it; ahead of its end the shape does not fit.
func wantWhole(t testing.TB, code []api.Instr, want api.Fused) {
	t.Helper()
	count := uint32(len(code))
	want.At, want.Len = 0, count
	wantFits(t, code, 0, count, want)
	wantLongest(t, code, 0, count, want)
	for end := range count {
		wantUnfit(t, code, 0, end, want.Kind)
	}
	// What stands ahead of it and behind it changes nothing.
	set := slices.Concat([]api.Instr{in(0, 9)}, code, []api.Instr{in(api.OpJump, 0), in(99, 0)})
	want.At = 1
	wantFits(t, set, 1, count+1, want)
	wantFits(t, set, 1, count+3, want)
	wantLongest(t, set, 1, count+3, want)
}

// wantLongest wants Longest to answer a thing, and the book too.
func wantLongest(t testing.TB, code []api.Instr, at, end uint32, want api.Fused) {
	t.Helper()
	if got := checkLongest(t, code, at, end); got != want {
		t.Errorf("Longest(%v, %d, %d): %v, want %v", short(code), at, end, got, want)
	}
}

// wantRefused wants Longest to refuse, with nothing beside the error.
func wantRefused(t testing.TB, code []api.Instr, at, end uint32, want api.Errno) {
	t.Helper()
	if got, err := fuse.Longest(code, at, end); got != (api.Fused{}) || err != want {
		t.Errorf("Longest(%v, %d, %d): %v, %d, want %d", short(code), at, end, got, err, want)
	}
}

// wantRow wants Row to go through these.
func wantRow(t testing.TB, code []api.Instr, at, end uint32, want ...api.Fused) {
	t.Helper()
	if got := checkRow(t, code, at, end); !slices.Equal(got, want) {
		t.Errorf("Row(%v, %d, %d): %v, want %v", short(code), at, end, got, want)
	}
}

// checkFits holds what Fits answers against the book.
func checkFits(t testing.TB, code []api.Instr, at, end uint32, k api.FuseKind) (api.Fused, bool) {
	t.Helper()
	got, is := fuse.Fits(code, at, end, k)
	want, wantIs := fitsBy(code, at, end, k)
	if got != want || is != wantIs {
		t.Fatalf("Fits(%v, %d, %d, %d): %v, %t, want %v, %t", short(code), at, end, k, got, is, want, wantIs)
	}
	return got, is
}

// checkLongest holds what Longest answers against the book.
func checkLongest(t testing.TB, code []api.Instr, at, end uint32) api.Fused {
	t.Helper()
	got, err := fuse.Longest(code, at, end)
	want, wantErr := longestBy(code, at, end)
	if got != want || err != wantErr {
		t.Fatalf("Longest(%v, %d, %d): %v, %d, want %v, %d", short(code), at, end, got, err, want, wantErr)
	}
	return got
}

// checkRow holds what Row goes through against the book.
func checkRow(t testing.TB, code []api.Instr, at, end uint32) []api.Fused {
	t.Helper()
	got := slices.Collect(fuse.Row(code, at, end))
	if want := rowBy(code, at, end); !slices.Equal(got, want) {
		t.Fatalf("Row(%v, %d, %d): %v, want %v", short(code), at, end, got, want)
	}
	return got
}

// checkAll holds all calls of a stretch against the book.
func checkAll(t testing.TB, code []api.Instr, at, end uint32) api.Fused {
	t.Helper()
	for _, k := range everyKind() {
		checkFits(t, code, at, end, k)
	}
	checkRow(t, code, at, end)
	return checkLongest(t, code, at, end)
}

// short gives the beginning of a list, to be told.
func short(code []api.Instr) []api.Instr { return code[:min(len(code), 40)] }

// mustTake gives the module of an image that is well formed.
func mustTake(t testing.TB, im api.Image) *verify.Module {
	t.Helper()
	m, at, err := verify.Take(im)
	if m == nil || err != api.OK {
		t.Fatalf("Take(%v): %d, %d", short(im.Code), at, err)
	}
	return m
}

// sameState holds two states against each other; nothing in a list is nil or no elements.
func sameState(a, b api.State) bool {
	return a.Life == b.Life && a.PC == b.PC && a.SP == b.SP && slices.Equal(a.Ops, b.Ops) && bytes.Equal(a.Data, b.Data) && a.Value == b.Value && a.Fault == b.Fault
}

// spoil writes over all of a list, its spare room too.
func spoil[E any](list []E, with E) {
	list = list[:cap(list)]
	for i := range list {
		list[i] = with
	}
}

package cell_test

import (
	"bytes"
	"slices"
	"strconv"
	"strings"
	"testing"

	"playpen/api"
	"playpen/cell"
	"playpen/isa"
	"playpen/verify"
)

const no = api.NoCell

func in(op api.Op, arg uint32) api.Instr { return api.Instr{Op: op, Arg: arg} }

// lines gives the code of a text like "0 enter 4, 1 const 7, leave 4"; the indices may be left out, but may not be wrong.
func lines(t testing.TB, source string) []api.Instr {
	t.Helper()
	var code []api.Instr
	for line := range strings.SplitSeq(source, ",") {
		words := strings.Fields(line)
		if index, err := strconv.Atoi(words[0]); err == nil {
			if index != len(code) {
				t.Fatalf("%q stands at %d", line, len(code))
			}
			words = words[1:]
		}
		op, is := isa.ByWord(words[0])
		if !is {
			t.Fatalf("%q is no instruction", line)
		}
		next := in(op, 0)
		if len(words) > 1 {
			arg, err := strconv.ParseInt(words[1], 0, 64)
			if err != nil {
				t.Fatal(err)
			}
			next.Arg = uint32(arg)
		}
		code = append(code, next)
	}
	return code
}

// mustTake gives the module of an image that is well formed.
func mustTake(t testing.TB, im api.Image) *verify.Module {
	t.Helper()
	m, at, err := verify.Take(im)
	if m == nil || err != api.OK {
		t.Fatalf("Take(%v): %d, %d", short(im.Code), at, err)
	}
	return m
}

// module gives the module of a text's code, with jumps.
func module(t testing.TB, source string, jumps ...uint32) *verify.Module {
	t.Helper()
	return mustTake(t, api.Image{Code: lines(t, source), Jumps: jumps, Stack: 128})
}

// unmade gives modules that are none.
func unmade(t testing.TB) map[string]*verify.Module {
	t.Helper()
	byHand := *module(t, "enter 4, const 1, const 2, add, leave 4")
	return map[string]*verify.Module{"nil": nil, "zero": {}, "a copy by hand": &byHand}
}

// short gives the beginning of a list, to be told.
func short[E any](list []E) []E { return list[:min(len(list), 60)] }

func thing(at, length uint32, k api.FuseKind, op api.Op, a, b uint32) api.Fused {
	return api.Fused{At: at, Len: length, Kind: k, Op: op, A: a, B: b}
}

func made(at, length uint32, k api.FuseKind, op api.Op, a, b, to uint32) api.Cell {
	return api.Cell{Fused: thing(at, length, k, op, a, b), To: to}
}

// alone gives the cell of one instruction as it stands.
func alone(at uint32, op api.Op, arg, to uint32) api.Cell {
	return made(at, 1, api.FuseOne, op, arg, 0, to)
}

// cloned gives the same threaded code, in memory of its own.
func cloned(x api.Threaded) api.Threaded {
	return api.Threaded{Cells: slices.Clone(x.Cells), Begins: slices.Clone(x.Begins)}
}

// sameThreaded holds threaded code against each other; nothing in a list is nil or no elements.
func sameThreaded(a, b api.Threaded) bool {
	return slices.Equal(a.Cells, b.Cells) && slices.Equal(a.Begins, b.Begins)
}

// wantLeaders wants Leaders to answer these, and the book too.
func wantLeaders(t testing.TB, what string, m *verify.Module, want ...uint32) {
	t.Helper()
	if got := checkLeaders(t, m); !slices.Equal(got, want) {
		t.Errorf("%s: %v, want %v", what, got, want)
	}
}

// wantCells wants Translate to answer these cells, and the book too.
func wantCells(t testing.TB, what string, m *verify.Module, want ...api.Cell) {
	t.Helper()
	if got := checkTranslate(t, m); !slices.Equal(got.Cells, want) {
		t.Errorf("%s: %v, want %v", what, got.Cells, want)
	}
}

// wantTold wants Check to answer a place and an error, and the book too.
func wantTold(t testing.TB, what string, m *verify.Module, x api.Threaded, place int, want api.Errno) {
	t.Helper()
	if at, err := checkCheck(t, m, x); at != place || err != want {
		t.Errorf("%s: %d, %d, want %d, %d", what, at, err, place, want)
	}
}

// wantWhere wants Where to answer a cell's number and how many instructions are ahead, and the book too.
func wantWhere(t testing.TB, x api.Threaded, index, number, ahead uint32) {
	t.Helper()
	if n, into, err := checkWhere(t, x, index); n != number || into != ahead || err != api.OK {
		t.Errorf("Where(%v, %d): %d, %d, %d, want %d, %d", short(x.Cells), index, n, into, err, number, ahead)
	}
}

// wantNowhere wants Where to refuse, with nothing beside the error.
func wantNowhere(t testing.TB, x api.Threaded, index uint32) {
	t.Helper()
	if n, into, err := checkWhere(t, x, index); n != 0 || into != 0 || err != api.ErrArg {
		t.Errorf("Where(%v, %d): %d, %d, %d", short(x.Cells), index, n, into, err)
	}
}

// checkLeaders holds what Leaders answers against the book.
func checkLeaders(t testing.TB, m *verify.Module) []uint32 {
	t.Helper()
	got, err := cell.Leaders(m)
	if want := leadersBy(m.Image()); !slices.Equal(got, want) || err != api.OK {
		t.Fatalf("Leaders(%v): %v, %d, want %v", short(m.Image().Code), short(got), err, short(want))
	}
	return got
}

// checkTranslate holds what Translate answers against the book.
func checkTranslate(t testing.TB, m *verify.Module) api.Threaded {
	t.Helper()
	got, err := cell.Translate(m)
	if want := translateBy(t, m.Image()); !sameThreaded(got, want) || err != api.OK {
		t.Fatalf("Translate(%v): %v, %d, want %v", short(m.Image().Code), got, err, want)
	}
	return got
}

// checkCheck holds what Check answers against the book.
func checkCheck(t testing.TB, m *verify.Module, x api.Threaded) (int, api.Errno) {
	t.Helper()
	place, err := cell.Check(m, x)
	if wantPlace, want := checkBy(m.Image(), x); place != wantPlace || err != want {
		t.Fatalf("Check(%v, %v): %d, %d, want %d, %d", short(m.Image().Code), x, place, err, wantPlace, want)
	}
	return place, err
}

// checkWhere holds what Where answers against the book.
func checkWhere(t testing.TB, x api.Threaded, index uint32) (uint32, uint32, api.Errno) {
	t.Helper()
	number, ahead, err := cell.Where(x, index)
	if wantNumber, wantAhead, want := whereBy(x, index); number != wantNumber || ahead != wantAhead || err != want {
		t.Fatalf("Where(%v, %d): %d, %d, %d, want %d, %d, %d", short(x.Cells), index, number, ahead, err, wantNumber, wantAhead, want)
	}
	return number, ahead, err
}

// sameImage holds two images against each other.
func sameImage(a, b api.Image) bool {
	return slices.Equal(a.Code, b.Code) && slices.Equal(a.Jumps, b.Jumps) && bytes.Equal(a.Data, b.Data) &&
		a.Zero == b.Zero && a.Stack == b.Stack && slices.Equal(a.Names, b.Names)
}

// spoil writes over all of a list, its spare room too.
func spoil[E any](list []E, with E) {
	list = list[:cap(list)]
	for i := range list {
		list[i] = with
	}
}

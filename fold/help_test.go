package fold_test

import (
	"bytes"
	"slices"
	"strconv"
	"strings"
	"testing"

	"playpen/api"
	"playpen/fold"
	"playpen/isa"
	"playpen/verify"
)

func in(op api.Op, arg uint32) api.Instr { return api.Instr{Op: op, Arg: arg} }

// lines gives the code of a text like "0 enter 4, 1 const 7, leave 4"; the indices may be left out, but may not be wrong.
func lines(t testing.TB, source string) []api.Instr {
	t.Helper()
	var code []api.Instr
	for line := range strings.SplitSeq(source, ",") {
		words := strings.Fields(line)
		if index, err := strconv.Atoi(words[0]); err == nil {
			if index != len(code) {
				t.Fatalf("%q stands at %d", line, len(code))
			}
			words = words[1:]
		}
		op, is := isa.ByWord(words[0])
		if !is {
			t.Fatalf("%q is no instruction", line)
		}
		one := in(op, 0)
		if len(words) > 1 {
			arg, err := strconv.ParseInt(words[1], 0, 64)
			if err != nil {
				t.Fatal(err)
			}
			one.Arg = uint32(arg)
		}
		code = append(code, one)
	}
	return code
}

// times gives a text of so many of the same instruction, each with a comma behind it.
func times(count int, line string) string { return strings.Repeat(line+", ", count) }

// with gives the same code with another instruction at an index.
func with(code []api.Instr, at int, turned api.Instr) []api.Instr {
	code = slices.Clone(code)
	code[at] = turned
	return code
}

func piece(at, length uint32, kind api.PieceKind, value uint32) api.Piece {
	return api.Piece{At: at, Len: length, Kind: kind, Value: value}
}

func push(at, length, value uint32) api.Piece { return piece(at, length, api.PiecePush, value) }

func goes(at, length, to uint32) api.Piece { return piece(at, length, api.PieceGoto, to) }

func none(at, length uint32) api.Piece { return piece(at, length, api.PieceNone, 0) }

func one(at uint32) api.Piece { return piece(at, 1, api.PieceOne, 0) }

// wantLongest wants Longest to answer a piece, and the book too.
func wantLongest(t testing.TB, code []api.Instr, at, end uint32, want api.Piece) {
	t.Helper()
	if got := checkLongest(t, code, at, end); got != want {
		t.Errorf("Longest(%v, %d, %d): %v, want %v", short(code), at, end, got, want)
	}
}

// wantRow wants Longest of the whole of a text's code to answer a piece.
func wantRow(t testing.TB, source string, want api.Piece) {
	t.Helper()
	code := lines(t, source)
	wantLongest(t, code, 0, uint32(len(code)), want)
}

// wantRefused wants Longest to refuse, with nothing beside the error.
func wantRefused(t testing.TB, code []api.Instr, at, end uint32, want api.Errno) {
	t.Helper()
	if got, err := fold.Longest(code, at, end); got != (api.Piece{}) || err != want {
		t.Errorf("Longest(%v, %d, %d): %v, %d, want %d", short(code), at, end, got, err, want)
	}
}

// checkLongest holds what Longest answers against the book.
func checkLongest(t testing.TB, code []api.Instr, at, end uint32) api.Piece {
	t.Helper()
	got, err := fold.Longest(code, at, end)
	want, wantErr := longestBy(code, at, end)
	if got != want || err != wantErr {
		t.Fatalf("Longest(%v, %d, %d): %v, %d, want %v, %d", short(code), at, end, got, err, want, wantErr)
	}
	return got
}

// short gives the beginning of a list, to be told.
func short(code []api.Instr) []api.Instr { return code[:min(len(code), 40)] }

// mustTake gives the module of an image that is well formed.
func mustTake(t testing.TB, im api.Image) *verify.Module {
	t.Helper()
	m, at, err := verify.Take(im)
	if m == nil || err != api.OK {
		t.Fatalf("Take(%v): %d, %d", short(im.Code), at, err)
	}
	return m
}

// module gives the module of a text's code, with jumps.
func module(t testing.TB, source string, jumps ...uint32) *verify.Module {
	t.Helper()
	return mustTake(t, api.Image{Code: lines(t, source), Jumps: jumps, Stack: 128})
}

// wantPieces wants Pieces to answer these.
func wantPieces(t testing.TB, what string, m *verify.Module, want ...api.Piece) {
	t.Helper()
	if got := checkPieces(t, m); !slices.Equal(got, want) {
		t.Errorf("%s: %v, want %v", what, got, want)
	}
}

// checkPieces holds what Pieces answers against the book.
func checkPieces(t testing.TB, m *verify.Module) []api.Piece {
	t.Helper()
	got, err := fold.Pieces(m)
	if want := piecesBy(t, m.Image()); !slices.Equal(got, want) || err != api.OK {
		t.Fatalf("Pieces(%v): %v, %d, want %v", short(m.Image().Code), got, err, want)
	}
	return got
}

// unmade gives modules that are none.
func unmade(t testing.TB) map[string]*verify.Module {
	t.Helper()
	byHand := *module(t, "enter 4, const 1, const 2, add, leave 4")
	return map[string]*verify.Module{"nil": nil, "zero": {}, "a copy by hand": &byHand}
}

// sameImage holds two images against each other.
func sameImage(a, b api.Image) bool {
	return slices.Equal(a.Code, b.Code) && slices.Equal(a.Jumps, b.Jumps) && bytes.Equal(a.Data, b.Data) &&
		a.Zero == b.Zero && a.Stack == b.Stack && slices.Equal(a.Names, b.Names)
}

// sameState holds two states against each other; nothing in a list is nil or no elements.
func sameState(a, b api.State) bool {
	return a.Life == b.Life && a.PC == b.PC && a.SP == b.SP && slices.Equal(a.Ops, b.Ops) && bytes.Equal(a.Data, b.Data) && a.Value == b.Value && a.Fault == b.Fault
}

// spoil writes over all of a list, its spare room too.
func spoil[E any](list []E, with E) {
	list = list[:cap(list)]
	for i := range list {
		list[i] = with
	}
}

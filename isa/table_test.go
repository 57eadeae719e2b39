package isa_test

import (
	"strings"
	"testing"

	"playpen/api"
	"playpen/isa"
)

// P7.1: the chapter's table has a row for each number from 1 to 59, and Info tells that row.
func TestInfo(t *testing.T) {
	table := rows()
	if len(table) != 59 {
		t.Fatalf("the table has %d rows", len(table))
	}
	for op := api.Op(1); op <= 59; op++ {
		want, is := table[op]
		if got, ok := isa.Info(op); !ok || !is || got != want {
			t.Errorf("Info(%d): %v, %t, want %v", op, got, ok, want)
		}
	}
}

// P7.1: the zero row and false for 0 and for all above 59.
func TestInfoOfNone(t *testing.T) {
	for _, op := range everyOp() {
		if op >= 1 && op <= 59 {
			continue
		}
		if got, ok := isa.Info(op); ok || got != (api.OpInfo{}) {
			t.Errorf("Info(%d): %v, %t", op, got, ok)
		}
	}
}

// P7.1, P7.2: some rows by their numbers, which are the bytes that images hold.
func TestNumbers(t *testing.T) {
	for number, word := range map[api.Op]string{1: "nop", 2: "break", 3: "enter", 4: "leave", 8: "const", 10: "pop", 12: "arg", 13: "eq", 27: "gtf", 28: "gef", 29: "load1", 35: "copy", 39: "add", 59: "cvfi"} {
		if op, ok := isa.ByWord(word); op != number || !ok {
			t.Errorf("ByWord(%q): %d, %t", word, op, ok)
		}
		if info, ok := isa.Info(number); info.Word != word || !ok {
			t.Errorf("Info(%d): %v, %t", number, info, ok)
		}
	}
}

// P7.2, P7.10: each word leads to its operation, and no two operations have one word.
func TestByWord(t *testing.T) {
	seen := map[string]api.Op{}
	for op := api.Op(1); op <= 59; op++ {
		info, _ := isa.Info(op)
		if other, is := seen[info.Word]; is {
			t.Errorf("%d and %d have the word %q", other, op, info.Word)
		}
		seen[info.Word] = op
		if got, ok := isa.ByWord(info.Word); got != op || !ok {
			t.Errorf("ByWord(%q): %d, %t", info.Word, got, ok)
		}
	}
	for word, op := range numbers() {
		if got, ok := isa.ByWord(word); got != op || !ok {
			t.Errorf("ByWord(%q): %d, %t", word, got, ok)
		}
	}
}

// P7.2: a word counts just as it stands in the table.
func TestByWordOfNone(t *testing.T) {
	words := []string{"", " ", "x", "Gtf", "OpGtf", "load", "load3", "store8", "sex32", "divf ", "div", "mod", "shr", "cv", "none", "\x00", "nop\x00", "пор"}
	for word := range numbers() {
		words = append(words, strings.ToUpper(word), strings.ToUpper(word[:1])+word[1:], word+" ", " "+word, word+"_", word[:len(word)-1]+"?")
	}
	for _, word := range words {
		if op, ok := isa.ByWord(word); op != 0 || ok {
			t.Errorf("ByWord(%q): %d, %t", word, op, ok)
		}
	}
}

// P7.3: the chapter's examples, and the greatest operands by hand.
func TestCheckRows(t *testing.T) {
	for _, c := range []struct {
		op   api.Op
		arg  uint32
		err  api.Errno
		size int
	}{
		{api.OpEnter, 65536, api.ErrOperand, 0}, {api.OpEnter, 65535, api.OK, 3},
		{api.OpPop, 1, api.ErrOperand, 0}, {api.OpPop, 0, api.OK, 1},
		{60, 0, api.ErrOp, 0}, {0, 0, api.ErrOp, 0}, {60, 0xFFFFFFFF, api.ErrOp, 0}, {255, 1, api.ErrOp, 0},
		{api.OpArg, 14, api.OK, 2}, {api.OpArg, 15, api.ErrOperand, 0},
		{api.OpCopy, 256, api.OK, 3}, {api.OpCopy, 257, api.ErrOperand, 0},
		{api.OpGoto, 16383, api.OK, 3}, {api.OpGoto, 16384, api.ErrOperand, 0},
		{api.OpGef, 16383, api.OK, 3}, {api.OpGef, 16384, api.ErrOperand, 0},
		{api.OpConst, 0xFFFFFFFF, api.OK, 5}, {api.OpLocal, 0xFFFFFFFF, api.OK, 5},
	} {
		in := api.Instr{Op: c.op, Arg: c.arg}
		if err, size := isa.Check(in), isa.Size(in); err != c.err || size != c.size {
			t.Errorf("%v: %d, %d", in, err, size)
		}
	}
}

// P7.3: every number of an operation with operands at all edges.
func TestCheckAll(t *testing.T) {
	table := rows()
	args := append(edgeArgs(), scattered(200)...)
	for _, op := range everyOp() {
		for _, arg := range args {
			in := api.Instr{Op: op, Arg: arg}
			want, size := checkBy(table, in), 0
			if want == api.OK {
				size = 1 + table[op].Width
			}
			if err := isa.Check(in); err != want {
				t.Fatalf("Check(%v): %d, want %d", in, err, want)
			}
			if got := isa.Size(in); got != size {
				t.Fatalf("Size(%v): %d, want %d", in, got, size)
			}
		}
	}
}

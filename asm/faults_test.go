package asm_test

import (
	"strings"
	"testing"

	"playpen/api"
	"playpen/asm"
)

// P10.1: chosen faults; the line is told by how many line ends stand ahead of the place.
func TestAssembleFaults(t *testing.T) {
	long := strings.Repeat("9", 65)
	for _, c := range []struct {
		s   string
		err api.Errno
		at  int
	}{
		// Tokens' errors come ahead of all others.
		{"frob\nnop ?", api.ErrToken, 9}, {"frob \xff", api.ErrUtf, 5}, {"frob\n\"a", api.ErrOpen, 5}, {"frob\n bytes \"a\\q\"", api.ErrEscape, 14},
		{"nop\n'ab'", api.ErrOpen, 6}, {"''", api.ErrToken, 1}, {"nop # ?\n=", api.ErrToken, 8}, {"open b\n.", api.ErrToken, 7},
		// What begins a statement.
		{": nop", api.ErrForm, 0}, {"a: : nop", api.ErrForm, 3}, {"1", api.ErrForm, 0}, {"-1", api.ErrForm, 0}, {"\n \"a\"", api.ErrForm, 2}, {"a: 'a'", api.ErrForm, 3}, {", nop", api.ErrForm, 0}, {"a, b: nop", api.ErrMnemonic, 0},
		{"frob 1", api.ErrMnemonic, 0}, {"a: frob ,", api.ErrMnemonic, 3}, {"nop\nfrob", api.ErrMnemonic, 4}, {"frob\nnop nop", api.ErrMnemonic, 0}, {"a\n:", api.ErrMnemonic, 0},
		{"byte 1", api.ErrHere, 0}, {"word 1", api.ErrHere, 0}, {"bytes \"a\"", api.ErrHere, 0}, {"space 1", api.ErrHere, 0}, {"byte ,", api.ErrHere, 0}, {"a: space", api.ErrHere, 3},
		{"data\nadd", api.ErrHere, 5}, {"data\nconst", api.ErrHere, 5}, {"zero\nnop 1", api.ErrHere, 5}, {"zero\nbyte 1", api.ErrHere, 5}, {"zero\nword 1", api.ErrHere, 5}, {"zero\nbytes \"a\"", api.ErrHere, 5},
		// Labels.
		{"a: a: nop", api.ErrTwice, 3}, {"a:\ndata\na:", api.ErrTwice, 8}, {"a: b: nop\nb: frob", api.ErrTwice, 10}, {"a: a: :", api.ErrTwice, 3},
		// What is lacking: at what stands there instead, or at the text's length.
		{"const", api.ErrForm, 5}, {"const  ", api.ErrForm, 7}, {"const\nnop", api.ErrForm, 5}, {"const # a\nnop", api.ErrForm, 9}, {"const # a", api.ErrForm, 9},
		{"const -", api.ErrForm, 7}, {"const -\n1", api.ErrForm, 7}, {"const a +", api.ErrForm, 9}, {"const a -\n1", api.ErrForm, 9},
		{"data\nbyte", api.ErrForm, 9}, {"data\nbyte 1,", api.ErrForm, 12}, {"data\nbyte 1,\n2", api.ErrForm, 12}, {"data\nword", api.ErrForm, 9}, {"data\nword a+", api.ErrForm, 12}, {"data\nbytes", api.ErrForm, 10}, {"zero\nspace", api.ErrForm, 10},
		{"stack", api.ErrForm, 5}, {"open", api.ErrForm, 4}, {"target", api.ErrForm, 6}, {"target a,", api.ErrForm, 9}, {"entry", api.ErrForm, 5}, {"entry \"a\"", api.ErrForm, 9}, {"entry \"a\",", api.ErrForm, 10},
		// What may not stand there.
		{"const ,", api.ErrForm, 6}, {"const +1", api.ErrForm, 6}, {"const --1", api.ErrForm, 7}, {"const \"a\"", api.ErrForm, 6}, {"const -a", api.ErrForm, 7}, {"const -'a'", api.ErrForm, 7}, {"const - \"a\"", api.ErrForm, 8},
		{"const a + b", api.ErrForm, 10}, {"const a + -1", api.ErrForm, 10}, {"const a + 'b'", api.ErrForm, 10}, {"const a - - 1", api.ErrForm, 10},
		{"data\nbyte a", api.ErrForm, 10}, {"data\nbyte \"a\"", api.ErrForm, 10}, {"data\nbyte ,1", api.ErrForm, 10}, {"data\nbyte 1,,2", api.ErrForm, 12}, {"data\nword ,", api.ErrForm, 10}, {"data\nword \"a\"", api.ErrForm, 10},
		{"data\nbytes a", api.ErrForm, 11}, {"data\nbytes 'a'", api.ErrForm, 11}, {"data\nbytes 1", api.ErrForm, 11}, {"data\nspace a", api.ErrForm, 11}, {"data\nspace \"a\"", api.ErrForm, 11}, {"stack a", api.ErrForm, 6}, {"stack \"a\"", api.ErrForm, 6},
		{"open 1", api.ErrForm, 5}, {"open \"a\"", api.ErrForm, 5}, {"open ,", api.ErrForm, 5}, {"target 'a'", api.ErrForm, 7}, {"target a, 1", api.ErrForm, 10},
		{"entry a, a", api.ErrForm, 6}, {"entry 'a', a", api.ErrForm, 6}, {"entry \"a\" a", api.ErrForm, 10}, {"entry \"a\", 1", api.ErrForm, 11}, {"entry \"a\", \"b\"", api.ErrForm, 11}, {"entry \"a\": b", api.ErrForm, 9},
		// What is left over.
		{"pop 1", api.ErrForm, 4}, {"nop nop", api.ErrForm, 4}, {"nop a:", api.ErrForm, 4}, {"nop ,", api.ErrForm, 4}, {"const 1 2", api.ErrForm, 8}, {"const 1 + 2", api.ErrForm, 8}, {"const 1, 2", api.ErrForm, 7}, {"const 'a' + 1", api.ErrForm, 10}, {"const a b", api.ErrForm, 8}, {"const a + 1 + 1", api.ErrForm, 12}, {"const a :", api.ErrForm, 8},
		{"code 1", api.ErrForm, 5}, {"data nop", api.ErrForm, 5}, {"zero a:", api.ErrForm, 5}, {"data\nbyte 1 2", api.ErrForm, 12}, {"data\nword a b", api.ErrForm, 12}, {"data\nbytes \"a\" \"b\"", api.ErrForm, 15}, {"data\nbytes \"a\", \"b\"", api.ErrForm, 14}, {"data\nspace 1 1", api.ErrForm, 13}, {"data\nspace 1, 1", api.ErrForm, 12},
		{"stack 1 1", api.ErrForm, 8}, {"a: open a a", api.ErrForm, 10}, {"target a b", api.ErrForm, 9}, {"entry \"a\", b, c", api.ErrForm, 12}, {"entry \"a\", b c", api.ErrForm, 13},
		// Numbers that figure.Word refuses, at their first token.
		{"const 0x1g", api.ErrFigure, 6}, {"const -0x1", api.ErrFigure, 6}, {"const - 0x1", api.ErrFigure, 6}, {"const 1_0", api.ErrFigure, 6}, {"const 1.", api.ErrFigure, 6}, {"const 1e400", api.ErrFigure, 6}, {"const 0X1", api.ErrFigure, 6}, {"const 1e39", api.ErrFigure, 6},
		{"const 99999999999", api.ErrLarge, 6}, {"const 4294967296", api.ErrLarge, 6}, {"const -2147483649", api.ErrLarge, 6}, {"const - 99999999999", api.ErrLarge, 6}, {"const 10000000000", api.ErrLarge, 6}, {"const -10000000000", api.ErrLarge, 6}, {"data\nword 1, -4294967290", api.ErrLarge, 13}, {"const 0x100000000", api.ErrLarge, 6}, {"const 0x100000000q", api.ErrLarge, 6}, {"const " + long, api.ErrDigits, 6}, {"const -" + long[1:], api.ErrDigits, 6}, {"const 1." + long, api.ErrDigits, 6},
		{"local 1.5", api.ErrFigure, 6}, {"local -1.5", api.ErrFigure, 6}, {"enter 1e1", api.ErrFigure, 6}, {"goto 0x1p1", api.ErrFigure, 5}, {"data\nbyte 1.5", api.ErrFigure, 10}, {"data\nbyte 1, -1.5", api.ErrFigure, 13}, {"zero\nspace 1e1", api.ErrFigure, 11}, {"stack 1.0", api.ErrFigure, 6}, {"stack 4294967296", api.ErrLarge, 6}, {"data\nword 1, 0x", api.ErrFigure, 13},
		{"const a + 0x1g", api.ErrFigure, 10}, {"const a - 1.5", api.ErrFigure, 10}, {"const a+4294967296", api.ErrLarge, 8}, {"data\nword a, b-1e1", api.ErrFigure, 15}, {"const a+" + long, api.ErrDigits, 8}, {"local a+1.5", api.ErrFigure, 8},
		// Numbers beyond their bounds, at their first token.
		{"arg 15", api.ErrOperand, 4}, {"arg -1", api.ErrOperand, 4}, {"arg - 1", api.ErrOperand, 4}, {"arg 'A'", api.ErrOperand, 4}, {"enter 65536", api.ErrOperand, 6}, {"goto 16384", api.ErrOperand, 5}, {"copy 257", api.ErrOperand, 5}, {"eq -2147483648", api.ErrOperand, 3},
		{"data\nbyte 256", api.ErrOperand, 10}, {"data\nbyte -128, -129", api.ErrOperand, 16}, {"data\nbyte '\u0100'", api.ErrOperand, 10}, {"data\nbyte 4294967167", api.ErrOperand, 10}, {"data\nbyte 2147483648", api.ErrOperand, 10},
		{"data\nspace 65537", api.ErrOperand, 11}, {"zero\nspace 65537", api.ErrOperand, 11}, {"zero\nspace -1", api.ErrOperand, 11}, {"zero\nspace '\U00010001'", api.ErrOperand, 11},
		// The leftmost comes first.
		{"arg 15 2", api.ErrOperand, 4}, {"data\nbyte 256 a", api.ErrOperand, 10}, {"data\nbyte a, 256", api.ErrForm, 10}, {"data\nbyte 1.5, 256", api.ErrFigure, 10}, {"data\nbyte 256, 1.5", api.ErrOperand, 10}, {"zero\nspace 65537 ,", api.ErrOperand, 11}, {"arg 15\nfrob", api.ErrOperand, 4}, {"arg 15\n a: a:", api.ErrOperand, 4},
		// stack, open, target, entry.
		{"stack 64\nstack 64", api.ErrTwice, 9}, {"stack 0\nstack 0", api.ErrTwice, 8}, {"stack 1\nstack", api.ErrTwice, 8}, {"stack 1\nstack a", api.ErrTwice, 8}, {"stack\nstack", api.ErrForm, 5},
		{"a: open a, a", api.ErrTwice, 11}, {"a: b: open a, b\nopen b", api.ErrTwice, 21}, {"open a, a", api.ErrTwice, 8}, {"open a, a\n a: frob", api.ErrTwice, 8}, {"target a\ntarget b, a", api.ErrTwice, 19}, {"target a, a, 1", api.ErrTwice, 10}, {"target a a", api.ErrForm, 9},
		{"entry \"\", a", api.ErrForm, 6}, {"entry \"\"", api.ErrForm, 6}, {"entry \"" + strings.Repeat("x", 33) + "\", a", api.ErrForm, 6}, {"entry \"" + strings.Repeat("\\u00e9", 17) + "\"", api.ErrForm, 6}, {"entry \"a\", a\nentry \"a\", b", api.ErrTwice, 19}, {"entry \"a\", a\nentry \"\\x61\"", api.ErrTwice, 19},
		// Names of open that no label has, behind all else.
		{"open b", api.ErrUnknown, 5}, {"a: open a, b, c\nopen d", api.ErrUnknown, 11}, {"open b\nfrob", api.ErrMnemonic, 7}, {"open b\nopen c\nc:", api.ErrUnknown, 5}, {"open a\n A:", api.ErrUnknown, 5}, {"entry \"b\", b\ntarget b\nconst b\nopen b", api.ErrUnknown, 35},
	} {
		if o, f := asm.Assemble(c.s); f != faultAt(c.s, c.err, c.at) || !sameObject(o, api.Object{}) {
			t.Errorf("%q: %v, %v, want %v", c.s, o, f, faultAt(c.s, c.err, c.at))
		}
		checkAssemble(t, c.s)
	}
}

// P10.1: lines are counted by line ends alone, in whatever stands ahead.
func TestAssembleLines(t *testing.T) {
	for _, c := range []struct {
		s    string
		line int
	}{
		{"frob", 1}, {"\nfrob", 2}, {"\r\n# \u00e9\n\n\t frob", 4}, {"a:\nb:\nconst\n", 3}, {"const\n\n\n", 1}, {"nop\n\nstack", 3}, {"# a\n\"", 2}, {"open b\n\n\n", 1},
	} {
		if _, f := asm.Assemble(c.s); f.Err == api.OK || f.Line != c.line {
			t.Errorf("%q: %v, want line %d", c.s, f, c.line)
		}
	}
}

// tails visits every text of a word and at most so many of the parts.
func tails(word string, parts []string, most int, visit func(string)) {
	visit(word)
	if most == 0 {
		return
	}
	for _, part := range parts {
		tails(word+" "+part, parts, most-1, visit)
	}
}

// P10.1: every statement with every short tail, in every section.
func TestAssembleEveryTail(t *testing.T) {
	parts := []string{"a", "b", ":", ",", "+", "-", "7", "300", "1.5", "\"a\"", "\"\"", "'A'", "\n"}
	words := []string{"pop", "const", "arg", "local", "byte", "word", "bytes", "space", "stack", "open", "target", "entry", "code", "a"}
	for _, word := range words {
		for _, section := range []string{"", "a: data\n", "b: zero\n"} {
			tails(section+word, parts, 3, func(s string) { checkAssemble(t, s) })
		}
	}
	for _, word := range []string{"const", "data\nword", "data\nbyte", "a: target", "b: a: open", "entry"} {
		tails(word, []string{"a", "b", ",", "-", "7", "\"a\""}, 5, func(s string) { checkAssemble(t, s) })
	}
}

// P10.1: texts of whole lines and pieces, put together from all over.
func TestAssembleScattered(t *testing.T) {
	d := &dice{words: scattered(9973)}
	lines := []string{
		"nop", "const 1", "const a", "goto b+1", "enter 8", "leave 8", "arg 14", "arg 15", "local c-1", "const 1.5", "byte 1, -1", "byte 255,256", "word a, 1.5,'x'", "word 9", "bytes \"hey\"",
		"space 3", "space 65536", "stack 64", "open a", "open b, c", "target a", "target d, b", "entry \"m\", a", "entry \"n\", b", "a:", "b:", "c: d:", "e: nop", "f: byte 1", "g:", "# comment", "", "frob", "nop nop", "const",
	}
	sections := []string{"code", "data", "zero"}
	good, bad := 0, 0
	for range 20000 {
		s := ""
		for range d.upTo(9) {
			line := lines[d.upTo(len(lines)-1-4*d.upTo(1))]
			if d.upTo(3) == 0 {
				line = sections[d.upTo(2)]
			}
			if d.upTo(5) == 0 {
				line = "\t" + strings.ReplaceAll(line, " ", " \t ") + " # so"
			}
			s += line + "\n"
		}
		if _, f := checkAssemble(t, s); f == (api.AsmFault{}) {
			good++
		} else {
			bad++
		}
	}
	if good < 2000 || bad < 2000 {
		t.Errorf("%d texts were taken, %d refused: too few of one kind", good, bad)
	}
}

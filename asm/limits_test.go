package asm_test

import (
	"strconv"
	"strings"
	"testing"

	"playpen/api"
	"playpen/asm"
)

// tryFault holds the fault of a text against one at a place that is given from the text's last line on.
func tryFault(t *testing.T, what, s string, err api.Errno, inLine int) {
	t.Helper()
	at := strings.LastIndexByte(s, '\n') + 1 + inLine
	if o, f := asm.Assemble(s); f != faultAt(s, err, at) || !sameObject(o, api.Object{}) {
		t.Errorf("%s: %v, want %v", what, f, faultAt(s, err, at))
	}
}

// P10.1: a text of as many bytes as may be, and of one more.
func TestTextRoom(t *testing.T) {
	most := "frob" + strings.Repeat(" ", 1<<19-4)
	if _, f := asm.Assemble(most); f != (api.AsmFault{Err: api.ErrMnemonic, Line: 1}) {
		t.Errorf("as many as may be: %v", f)
	}
	for _, s := range []string{most + " ", strings.Repeat("\n", 1<<19) + "?", strings.Repeat("?", 1<<20)} {
		if o, f := asm.Assemble(s); f != (api.AsmFault{Err: api.ErrAsmRoom}) || !sameObject(o, api.Object{}) {
			t.Errorf("%d bytes: %v", len(s), f)
		}
	}
	if o := mustAssemble(t, "nop#"+strings.Repeat("x", 1<<19-4)); len(o.Code) != 1 {
		t.Errorf("a long comment: %v", o)
	}
	if _, f := asm.Assemble(strings.Repeat("\n", 1<<19-1) + "?"); f != (api.AsmFault{Err: api.ErrToken, Line: 1 << 19, At: 1<<19 - 1}) {
		t.Errorf("the last byte: %v", f)
	}
}

// P10.1: as many instructions as may be; the one behind them is refused at its word, when all else of it is right.
func TestCodeRoom(t *testing.T) {
	s := strings.Repeat("nop\n", 16384)
	if o := mustAssemble(t, s+"end: data\nbyte 1"); len(o.Code) != 16384 || o.Labels[0].At != 16384 || asm.Check(o) != api.OK {
		t.Errorf("%d instructions", len(o.Code))
	}
	tryFault(t, "one more", s+"a: pop", api.ErrAsmRoom, 3)
	tryFault(t, "one more with an operand", s+"\tconst 1", api.ErrAsmRoom, 1)
	tryFault(t, "one more and something left over", s+"pop 1", api.ErrForm, 4)
	tryFault(t, "one more beyond its bounds", s+"arg 15", api.ErrOperand, 4)
	tryFault(t, "one more with a fix", s+"const a", api.ErrAsmRoom, 0)
	tryFault(t, "one more in another section", s+"data\nnop", api.ErrHere, 0)
}

// P10.1: as many bytes of data as may be, laid by each statement.
func TestDataRoom(t *testing.T) {
	for _, c := range []struct {
		room      int
		fine, bad string
	}{
		{0, "bytes \"\"", "byte 1"}, {0, "space 0", "space 1"}, {1, "byte 1", "byte 1, 2"}, {2, "bytes \"ab\"", "bytes \"abc\""}, {3, "byte 1,2,3", "word 1"},
		{4, "word a", "word a, b"}, {7, "word 1", "word 1, 2"}, {8, "word 1, 2", "word 1, 2, 3"}, {65535, "space 65535", "space 65536"}, {65536, "space 65536", "word 1, " + strings.Repeat("1,", 16384) + "1"}, {65536, "word " + strings.Repeat("1,", 16383) + "1", "bytes \"" + strings.Repeat("x", 65537) + "\""},
		{0, "zero", "word a"},
	} {
		s := "data\nspace " + strconv.Itoa(65536-c.room) + "\n"
		if o := mustAssemble(t, s+c.fine); asm.Check(o) != api.OK {
			t.Errorf("%s with room for %d", brief(c.fine), c.room)
		}
		tryFault(t, brief(c.bad), s+"a: "+c.bad, api.ErrAsmRoom, 3)
		tryFault(t, brief(c.bad), s+c.bad+" :", api.ErrForm, len(c.bad)+1)
	}
}

// P10.1: as many noughts as may be; data and noughts do not share their room.
func TestZeroRoom(t *testing.T) {
	s := "data\nspace 65536\nzero\nspace 65535\nspace 1\n"
	if o := mustAssemble(t, s+"space 0\nend:"); o.Zero != 65536 || len(o.Data) != 65536 || o.Labels[0].At != 65536 || asm.Check(o) != api.OK {
		t.Errorf("%d noughts", o.Zero)
	}
	tryFault(t, "one more", s+" space 1", api.ErrAsmRoom, 1)
	tryFault(t, "many more", s+"space 65536", api.ErrAsmRoom, 0)
	tryFault(t, "beyond its bounds", s+"space 65537", api.ErrOperand, 6)
	tryFault(t, "left over", s+"space 1 1", api.ErrForm, 8)
}

// P10.1: as many labels as may be, of all sections together.
func TestLabelRoom(t *testing.T) {
	var b strings.Builder
	for i := range 4096 {
		b.WriteString("x" + strconv.Itoa(i) + ":" + []string{"\n", " nop\n", " data\n", " zero\n", " code\n"}[i%5])
	}
	s := b.String() + "code\n"
	if o := mustAssemble(t, s); len(o.Labels) != 4096 || asm.Check(o) != api.OK {
		t.Errorf("%d labels", len(o.Labels))
	}
	tryFault(t, "one more", s+"nop\n y: nop", api.ErrAsmRoom, 1)
	tryFault(t, "one more and a fault", s+"y: frob", api.ErrAsmRoom, 0)
	tryFault(t, "one more that is there", s+"x7: nop", api.ErrTwice, 0)
	if o := mustAssemble(t, s+"open x4095, x0"); !o.Labels[0].Open {
		t.Errorf("%v", o.Labels[0])
	}
}

// P10.1: as many fixes as may be, of code and data together.
func TestFixRoom(t *testing.T) {
	s := strings.Repeat("const a\n", 10000) + "data\nword a" + strings.Repeat(",a", 6382) + "\n"
	if o := mustAssemble(t, s+"word a, 1, 2"); len(o.Fixes) != 16384 || asm.Check(o) != api.OK {
		t.Errorf("%d fixes", len(o.Fixes))
	}
	tryFault(t, "one more of the data", s+"b: word 1, a, a", api.ErrAsmRoom, 3)
	tryFault(t, "one more of the data, left over", s+"word a, a a", api.ErrForm, 10)
	tryFault(t, "one more of the code", s+"word a\ncode\n const a + 1", api.ErrAsmRoom, 1)
	tryFault(t, "one more of the code, at fault", s+"word a\ncode\n const a + 1.5", api.ErrFigure, 11)
	if o := mustAssemble(t, s+"word a\ncode\nconst 1\ndata\nword 1"); len(o.Fixes) != 16384 {
		t.Errorf("%d fixes", len(o.Fixes))
	}
}

// P10.1: as many entries as may be; and targets, of which there may be any number.
func TestEntryRoom(t *testing.T) {
	var b strings.Builder
	for i := range 64 {
		b.WriteString("entry \"x" + strconv.Itoa(i) + "\", a\n")
	}
	s := b.String()
	if o := mustAssemble(t, s); len(o.Entries) != 64 || asm.Check(o) != api.OK {
		t.Errorf("%d entries", len(o.Entries))
	}
	tryFault(t, "one more", s+"a: entry \"y\", a", api.ErrAsmRoom, 3)
	tryFault(t, "one more that is there", s+"entry \"x0\", a", api.ErrTwice, 6)
	tryFault(t, "one more without a label", s+"entry \"y\",", api.ErrForm, 10)
	b.Reset()
	for i := range 40000 {
		b.WriteString("target t" + strconv.FormatInt(int64(i), 36) + "\n")
	}
	if o := mustAssemble(t, b.String()); len(o.Targets) != 40000 || asm.Check(o) != api.OK {
		t.Errorf("%d targets", len(o.Targets))
	}
}

// P10.1: names of entries at the edges of their length.
func TestEntryNames(t *testing.T) {
	for n := range 40 {
		s := "entry \"" + strings.Repeat("\\xff", n) + "\", a"
		o, f := checkAssemble(t, s)
		if fine := n >= 1 && n <= 32; fine != (f == api.AsmFault{}) || fine && o.Entries[0].Name != strings.Repeat("\xff", n) {
			t.Errorf("%d bytes: %v, %v", n, o, f)
		}
	}
}

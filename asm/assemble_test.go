package asm_test

import (
	"strconv"
	"strings"
	"testing"

	"playpen/api"
	"playpen/asm"
	"playpen/isa"
)

const sample = `
        entry "main", start
        target two
start:  enter 8            # a procedure
        const msg + 1
        load1
        goto two
two:    leave 8
        data
msg:    bytes "hi\n"
        word -1, 1.5, msg, 'A'
        zero
buf:    space 8
        stack 256
`

// sampleObject is what the chapter's first example comes to.
func sampleObject() api.Object {
	return api.Object{
		Code:    []api.Instr{{Op: api.OpEnter, Arg: 8}, {Op: api.OpConst}, {Op: api.OpLoad1}, {Op: api.OpGoto}, {Op: api.OpLeave, Arg: 8}},
		Data:    []byte("hi\n\xff\xff\xff\xff\x00\x00\xc0\x3f\x00\x00\x00\x00A\x00\x00\x00"),
		Zero:    8,
		Stack:   256,
		Labels:  []api.Label{{Name: "start", In: api.SecCode}, {Name: "two", In: api.SecCode, At: 4}, {Name: "msg", In: api.SecData}, {Name: "buf", In: api.SecZero}},
		Fixes:   []api.Fix{{In: api.SecCode, At: 1, Name: "msg", Add: 1}, {In: api.SecCode, At: 3, Name: "two"}, {In: api.SecData, At: 11, Name: "msg"}},
		Targets: []string{"two"},
		Entries: []api.Entry{{Name: "main", Label: "start"}},
	}
}

// P10.1: the chapter's first example.
func TestAssembleExample(t *testing.T) {
	if o := mustAssemble(t, sample); !sameObject(o, sampleObject()) {
		t.Errorf("%v", o)
	}
	checkAssemble(t, sample)
}

// P10.1: texts of nothing.
func TestAssembleNothing(t *testing.T) {
	for _, s := range []string{"", "\n", " \t\r\n\n", "# nop", "#\n#\n", "code", "data\nzero\ncode\n", "data\nbytes \"\"\nspace 0\nzero\nspace 0\nstack 0"} {
		if o := mustAssemble(t, s); !sameObject(o, api.Object{}) {
			t.Errorf("Assemble(%q): %v", s, o)
		}
	}
}

// P10.1: each operation with and without an operand, the greatest one and one more, and with a name.
func TestAssembleEachOperation(t *testing.T) {
	for op := api.OpNop; op <= api.LastOp; op++ {
		info, _ := isa.Info(op)
		if info.Width == 0 {
			if o := mustAssemble(t, info.Word); !sameObject(o, api.Object{Code: []api.Instr{{Op: op}}}) {
				t.Errorf("%s: %v", info.Word, o)
			}
		} else if o := mustAssemble(t, info.Word+" here+3"); !sameObject(o, api.Object{Code: []api.Instr{{Op: op}}, Fixes: []api.Fix{{In: api.SecCode, Name: "here", Add: 3}}}) {
			t.Errorf("%s: %v", info.Word, o)
		}
		for _, operand := range []string{"", " 0", " -0", " -1", " '\\0'", " '\\x0e'", " '\\x0f'", " 1.5", " 0x10", " \"a\"", " here", " here-1", " 0,0"} {
			checkAssemble(t, info.Word+operand)
		}
		for _, off := range []uint64{0, 1} {
			operand := strconv.FormatUint(uint64(info.Most)+off, 10)
			o, f := checkAssemble(t, info.Word+" "+operand)
			if fine := info.Width > 0 && off == 0; fine != (f == api.AsmFault{}) || fine && o.Code[0] != (api.Instr{Op: op, Arg: info.Most}) {
				t.Errorf("%s %s: %v, %v", info.Word, operand, o, f)
			}
		}
	}
}

// P10.1: words are known just as they stand in the table.
func TestAssembleWordsAsTheyAre(t *testing.T) {
	for _, word := range []string{"Nop", "NOP", "nopp", "no", "Code", "DATA", "byteS", "words", "label", "_", "\u00e9"} {
		if _, f := asm.Assemble(word); f != (api.AsmFault{Err: api.ErrMnemonic, Line: 1}) {
			t.Errorf("%q: %v", word, f)
		}
	}
}

// P10.1: what an operand of const stands for, and a word of the data.
func TestAssembleNumbers(t *testing.T) {
	for _, c := range []struct {
		operand string
		want    uint32
	}{
		{"0", 0}, {"7", 7}, {"007", 7}, {"4294967295", 1<<32 - 1}, {"-1", 1<<32 - 1}, {"- 1", 1<<32 - 1}, {"-2147483648", 1 << 31},
		{"0x0", 0}, {"0xFfFfFfFf", 1<<32 - 1}, {"0b101", 5}, {"0xe", 14},
		{"'A'", 65}, {"'\\n'", 10}, {"'\\xff'", 255}, {"'\u00e9'", 233}, {"'\U0010ffff'", 0x10ffff}, {"'\\''", 39},
		{"1.5", 0x3fc00000}, {"-1.5", 0xbfc00000}, {"- 1.5", 0xbfc00000}, {"0.0", 0}, {"-0.0", 0x80000000},
		{"1e10", 0x501502f9}, {"-1e10", 0xd01502f9}, {"1E+1", 0x41200000}, {"1e-1", 0x3dcccccd},
		{"0x1p3", 0x41000000}, {"-0x1.8p-1", 0xbf400000}, {"0x100000000p0", 0x4f800000}, {"99999999999.0", 0x51ba43b7},
		{"1e-99", 0}, {"-1e-99", 0x80000000}, {strings.Repeat("0", 63) + "5", 5}, {"-" + strings.Repeat("0", 62) + "5", 1<<32 - 5},
	} {
		s := "const " + c.operand + "\ndata\nword " + c.operand + ",0"
		o := mustAssemble(t, s)
		if o.Code[0] != (api.Instr{Op: api.OpConst, Arg: c.want}) || string(o.Data) != string([]byte{byte(c.want), byte(c.want >> 8), byte(c.want >> 16), byte(c.want >> 24), 0, 0, 0, 0}) || len(o.Fixes) != 0 {
			t.Errorf("%s: %v, want %#x", c.operand, o, c.want)
		}
		checkAssemble(t, s)
	}
}

// P10.1: names as operands, with what is added to them.
func TestAssembleNames(t *testing.T) {
	for _, c := range []struct {
		operand string
		want    api.Fix
	}{
		{"a", api.Fix{Name: "a"}}, {"nop", api.Fix{Name: "nop"}}, {"code", api.Fix{Name: "code"}}, {"inf", api.Fix{Name: "inf"}}, {"nan", api.Fix{Name: "nan"}},
		{"\u00e9_1", api.Fix{Name: "\u00e9_1"}},
		{"a+1", api.Fix{Name: "a", Add: 1}}, {"a + 1", api.Fix{Name: "a", Add: 1}}, {"a +0", api.Fix{Name: "a"}}, {"a-0", api.Fix{Name: "a"}},
		{"a-1", api.Fix{Name: "a", Add: 1<<32 - 1}}, {"a - 4294967295", api.Fix{Name: "a", Add: 1}}, {"a+4294967295", api.Fix{Name: "a", Add: 1<<32 - 1}},
		{"a-0x80000000", api.Fix{Name: "a", Add: 1 << 31}}, {"e+0x1e", api.Fix{Name: "e", Add: 30}}, {"a-0b11", api.Fix{Name: "a", Add: 1<<32 - 3}},
	} {
		s := "nop\nconst " + c.operand + "\ndata\nbyte 9\nword 7, " + c.operand
		o := mustAssemble(t, s)
		code, data := c.want, c.want
		code.In, code.At, data.In, data.At = api.SecCode, 1, api.SecData, 5
		want := api.Object{Code: []api.Instr{{Op: api.OpNop}, {Op: api.OpConst}}, Data: []byte{9, 7, 0, 0, 0, 0, 0, 0, 0}, Fixes: []api.Fix{code, data}}
		if !sameObject(o, want) {
			t.Errorf("%s: %v", c.operand, o)
		}
		checkAssemble(t, s)
	}
}

// P10.1: bytes of the data, at all numbers near their bounds, however they are written.
func TestAssembleBytes(t *testing.T) {
	for n := -300; n <= 300; n++ {
		o, f := checkAssemble(t, "data\nbyte "+strconv.Itoa(n)+", "+strconv.Itoa(int(uint32(n))))
		if fine := n >= -128 && n <= 255; fine != (f == api.AsmFault{}) || fine && string(o.Data) != string([]byte{byte(n), byte(n)}) {
			t.Errorf("%d: %v, %v", n, o, f)
		}
	}
	if o := mustAssemble(t, "data\nbyte 'A','\\xff' , '\u00ff',0xffffff80\nbytes \"\\u00e9\\0\\\"\"\nbytes \"\"\nspace 2\nbyte 1"); string(o.Data) != "A\xff\xff\x80\xc3\xa9\x00\"\x00\x00\x01" {
		t.Errorf("%q", o.Data)
	}
}

// P10.1: sections are taken up again where they ended; labels name the place where their section ends.
func TestAssembleSections(t *testing.T) {
	s := "z: nop\ndata\nd: e: bytes \"abc\"\nzero\n h: space 3\ncode\ny: nop\nx:\n" +
		"data\nc: byte 1\nb: zero\ni: space 4\na: code\nw: nop\ndata\nf:"
	o := mustAssemble(t, s)
	want := api.Object{
		Code: []api.Instr{{Op: api.OpNop}, {Op: api.OpNop}, {Op: api.OpNop}}, Data: []byte("abc\x01"), Zero: 7,
		Labels: []api.Label{
			{Name: "z", In: api.SecCode, At: 0}, {Name: "y", In: api.SecCode, At: 1}, {Name: "x", In: api.SecCode, At: 2}, {Name: "w", In: api.SecCode, At: 2},
			{Name: "d", In: api.SecData, At: 0}, {Name: "e", In: api.SecData, At: 0}, {Name: "c", In: api.SecData, At: 3}, {Name: "b", In: api.SecData, At: 4}, {Name: "f", In: api.SecData, At: 4},
			{Name: "h", In: api.SecZero, At: 0}, {Name: "i", In: api.SecZero, At: 3}, {Name: "a", In: api.SecZero, At: 7},
		},
	}
	if !sameObject(o, want) {
		t.Errorf("%v", o)
	}
	checkAssemble(t, s)
}

// P10.1: fixes of the code stand ahead of those of the data, wherever they stand in the text.
func TestAssembleFixesInOrder(t *testing.T) {
	s := "data\nword a, 1, b\ncode\ngoto c\ndata\nword d\ncode\nlocal e"
	want := []api.Fix{{In: api.SecCode, At: 0, Name: "c"}, {In: api.SecCode, At: 1, Name: "e"}, {In: api.SecData, At: 0, Name: "a"}, {In: api.SecData, At: 8, Name: "b"}, {In: api.SecData, At: 12, Name: "d"}}
	o := mustAssemble(t, s)
	if !sameObject(o, api.Object{Code: []api.Instr{{Op: api.OpGoto}, {Op: api.OpLocal}}, Data: append(append(make([]byte, 4), 1, 0, 0, 0), make([]byte, 8)...), Fixes: want}) {
		t.Errorf("%v", o)
	}
}

// P10.1: open, target, entry and stack stand anywhere, ahead of and behind the labels; a name may be in each kind of list.
func TestAssembleLists(t *testing.T) {
	s := "open c, a\nzero\ntarget a, b\nstack 0xffffffff\na: data\nopen b\nb: c: d: entry \"a\", d\ntarget x, c\ncode\nentry \"\\0\\xff\", nowhere"
	o := mustAssemble(t, s)
	want := api.Object{
		Stack:   1<<32 - 1,
		Labels:  []api.Label{{Name: "b", In: api.SecData, Open: true}, {Name: "c", In: api.SecData, Open: true}, {Name: "d", In: api.SecData}, {Name: "a", In: api.SecZero, Open: true}},
		Targets: []string{"a", "b", "x", "c"},
		Entries: []api.Entry{{Name: "a", Label: "d"}, {Name: "\x00\xff", Label: "nowhere"}},
	}
	if !sameObject(o, want) {
		t.Errorf("%v", o)
	}
	checkAssemble(t, s)
}

// P10.1: labels, sections' and operations' words do not get into one another's way.
func TestAssembleWordsAsNames(t *testing.T) {
	s := "code: data: nop: const nop - 1\nopen open, entry\nopen: target: entry: byte: stack: entry \"code\", code\ntarget data, code\nword:\nzero:zero\nspace : space 1"
	o := mustAssemble(t, s)
	if len(o.Labels) != 11 || o.Labels[10] != (api.Label{Name: "space", In: api.SecZero}) || o.Fixes[0] != (api.Fix{In: api.SecCode, Name: "nop", Add: 1<<32 - 1}) || !o.Labels[3].Open || o.Labels[3].Name != "open" {
		t.Errorf("%v", o)
	}
	checkAssemble(t, s)
}

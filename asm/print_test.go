package asm_test

import (
	"bytes"
	"slices"
	"strings"
	"testing"

	"playpen/api"
	"playpen/asm"
)

// checkPrint holds Print of an object that may be against the document's words, and what is assembled of it against the object (P10.4).
func checkPrint(t *testing.T, o api.Object) string {
	t.Helper()
	s, err := asm.Print(o)
	if want := printBy(o); s != want || err != api.OK {
		t.Fatalf("Print(%v): %q, %d, want %q", o, brief(s), err, brief(want))
	}
	if back, f := asm.Assemble(s); !sameObject(back, o) || f != (api.AsmFault{}) {
		t.Fatalf("Assemble(%q): %v, %v, want %v", brief(s), back, f, o)
	}
	return s
}

// P10.3: chosen objects.
func TestPrintChosen(t *testing.T) {
	for _, c := range []struct {
		o    api.Object
		want string
	}{
		{api.Object{}, "code\n"},
		{sampleObject(), "code\nstart:\n\tenter 8\n\tconst msg+1\n\tload1\n\tgoto two\ntwo:\n\tleave 8\ndata\nmsg:\n\tbytes \"hi\\n\\xff\\xff\\xff\\xff\\0\\0\\xc0?\"\n\tword msg\n\tbytes \"A\\0\\0\\0\"\nzero\nbuf:\n\tspace 8\nstack 256\ntarget two\nentry \"main\", start\n"},
		{fullObject(), "code\na:\n\tenter 8\n\tconst a+4294967295\n\tgoto nowhere\n\tpop\nb:\ndata\n\tbytes \"\\x01\\x02\"\nd:\nc:\n\tword f+1\n\tword a\n\tbytes \"\\x03\\0\\0\\0\"\ne:\nzero\n\tspace 5\nf:\nstack 66\nopen b\nopen f\ntarget b\ntarget nowhere\nentry \"main\", a\nentry \"\\0\", nowhere\n"},
		{api.Object{Code: []api.Instr{{Op: api.OpConst, Arg: 1<<32 - 1}, {Op: api.OpLocal, Arg: 1 << 31}, {Op: api.OpEnter, Arg: 65535}, {Op: api.OpArg}}, Stack: 1<<32 - 1}, "code\n\tconst -1\n\tlocal -2147483648\n\tenter 65535\n\targ 0\nstack 4294967295\n"},
		{api.Object{Labels: []api.Label{{Name: "c", In: api.SecCode}, {Name: "b", In: api.SecCode}}}, "code\nc:\nb:\n"},
		{api.Object{Labels: []api.Label{{Name: "d", In: api.SecData, Open: true}}}, "code\ndata\nd:\nopen d\n"},
		{api.Object{Labels: []api.Label{{Name: "z", In: api.SecZero}}}, "code\nzero\nz:\n"},
		{api.Object{Zero: 65536}, "code\nzero\n\tspace 65536\n"},
		{api.Object{Zero: 3, Labels: []api.Label{{Name: "z", In: api.SecZero, At: 1}, {Name: "y", In: api.SecZero, At: 1}, {Name: "x", In: api.SecZero, At: 3}}}, "code\nzero\n\tspace 1\nz:\ny:\n\tspace 2\nx:\n"},
		{api.Object{Data: []byte(strings.Repeat("x", 33))}, "code\ndata\n\tbytes \"xxxxxxxxxxxxxxxx\"\n\tbytes \"xxxxxxxxxxxxxxxx\"\n\tbytes \"x\"\n"},
		{api.Object{Data: []byte(strings.Repeat("x", 32))}, "code\ndata\n\tbytes \"xxxxxxxxxxxxxxxx\"\n\tbytes \"xxxxxxxxxxxxxxxx\"\n"},
		{api.Object{Data: make([]byte, 8), Fixes: []api.Fix{{In: api.SecData, At: 4, Name: "a"}}}, "code\ndata\n\tbytes \"\\0\\0\\0\\0\"\n\tword a\n"},
	} {
		if s, err := asm.Print(c.o); s != c.want || err != api.OK {
			t.Errorf("Print(%v): %q, %d, want %q", c.o, s, err, c.want)
		}
		checkPrint(t, c.o)
	}
}

// P10.3, P10.4: data that labels and fixes cut at all places.
func TestPrintCuts(t *testing.T) {
	for size := range 40 {
		for at := range size + 1 {
			o := api.Object{Data: make([]byte, size), Labels: []api.Label{{Name: "a", In: api.SecData, At: uint32(at)}}}
			checkPrint(t, o)
			o = api.Object{Zero: uint32(size), Labels: []api.Label{{Name: "a", In: api.SecZero, At: uint32(at)}}}
			checkPrint(t, o)
			if at+4 <= size {
				checkPrint(t, api.Object{Data: make([]byte, size), Fixes: []api.Fix{{In: api.SecData, At: uint32(at), Name: "a"}}})
			}
		}
	}
}

// P10.3, P10.4: objects from all over.
func TestPrintScattered(t *testing.T) {
	d := &dice{words: scattered(9973)}
	for range 10000 {
		checkPrint(t, someObject(d, "n"))
	}
}

// P10.3, P10.4: objects at their limits.
func TestPrintFull(t *testing.T) {
	o := api.Object{Code: slices.Repeat([]api.Instr{{Op: api.OpConst}}, 16384), Data: bytes.Repeat([]byte("0123456789abcdef"), 4096), Zero: 65536}
	for i := range 16384 {
		o.Fixes = append(o.Fixes, api.Fix{In: api.SecCode, At: uint32(i), Name: "a"})
	}
	s, err := asm.Print(o)
	if back, f := asm.Assemble(s); err != api.OK || f != (api.AsmFault{}) || !sameObject(back, o) {
		t.Errorf("%d, %v", err, f)
	}
}

// P10.3: a text of as many bytes as may be, and of one more.
func TestPrintRoom(t *testing.T) {
	// The text's other bytes: code, a line's end, target, a blank, a line's end.
	for size := 1<<19 - 13 - 2; size <= 1<<19; size++ {
		o := api.Object{Targets: []string{strings.Repeat("x", size)}}
		s, err := asm.Print(o)
		if fits := size+13 <= 1<<19; fits && (len(s) != size+13 || err != api.OK) || !fits && (s != "" || err != api.ErrAsmRoom) {
			t.Errorf("a name of %d bytes: %d bytes, %d", size, len(s), err)
		}
		if back, f := asm.Assemble(s); err == api.OK && (f != (api.AsmFault{}) || !sameObject(back, o)) {
			t.Errorf("a name of %d bytes: %v", size, f)
		}
	}
	// A line more behind as many bytes as may be, and one that begins within them.
	for _, size := range []int{1<<19 - 13, 1<<19 - 14} {
		if s, err := asm.Print(api.Object{Targets: []string{strings.Repeat("x", size), "y"}}); s != "" || err != api.ErrAsmRoom {
			t.Errorf("a name of %d bytes and a line more: %d bytes, %d", size, len(s), err)
		}
	}
	// Far too much comes to the same, wherever it stands.
	long := strings.Repeat("x", 1000)
	code := slices.Repeat([]api.Instr{{Op: api.OpConst}}, 1000)
	var fixes []api.Fix
	for i := range 1000 {
		fixes = append(fixes, api.Fix{In: api.SecCode, At: uint32(i), Name: long, Add: 1})
	}
	for _, o := range []api.Object{
		{Code: code, Fixes: fixes},
		{Code: code, Fixes: fixes, Data: []byte("abc"), Zero: 8, Stack: 64, Targets: []string{"a"}, Entries: []api.Entry{{Name: "a", Label: "a"}}},
		{Data: bytes.Repeat([]byte{255}, 65536), Labels: []api.Label{{Name: strings.Repeat("x", 300000), In: api.SecData}}},
	} {
		if s, err := asm.Print(o); s != "" || err != api.ErrAsmRoom {
			t.Errorf("%d bytes, %d", len(s), err)
		}
	}
	if s, err := asm.Print(api.Object{Code: code[:500], Fixes: fixes[:500]}); err != api.OK || len(s) != 5+500*1010 {
		t.Errorf("%d bytes, %d", len(s), err)
	}
}

// P10.3: a wrong object is refused ahead of a text that is too long.
func TestPrintRefuses(t *testing.T) {
	o := api.Object{Targets: []string{strings.Repeat("x", 1<<19)}}
	if s, err := asm.Print(o); s != "" || err != api.ErrAsmRoom {
		t.Errorf("%d bytes, %d", len(s), err)
	}
	o.Zero = 65537
	if s, err := asm.Print(o); s != "" || err != api.ErrObject {
		t.Errorf("%d bytes, %d", len(s), err)
	}
}

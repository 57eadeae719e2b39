package asm_test

import (
	"strings"
	"sync"
	"testing"
	"unsafe"

	"playpen/api"
	"playpen/asm"
)

// roomy gives an object whose lists have spare room with something in it, and it with that in it.
func roomy() (api.Object, api.Object) {
	o := fullObject()
	o.Code = append(o.Code, api.Instr{Op: api.OpNop}, api.Instr{Op: 77})
	o.Data = append(o.Data, 7, 7)
	o.Labels = append(o.Labels, api.Label{Name: "spare", In: api.SecZero, At: 5})
	o.Fixes = append(o.Fixes, api.Fix{In: api.SecData, At: 77, Name: "spare"})
	o.Targets = append(o.Targets, "spare")
	o.Entries = append(o.Entries, api.Entry{Name: "spare", Label: "spare"})
	whole := cloned(o)
	full := fullObject()
	o.Code, o.Data, o.Labels = o.Code[:len(full.Code)], o.Data[:len(full.Data)], o.Labels[:len(full.Labels)]
	o.Fixes, o.Targets, o.Entries = o.Fixes[:len(full.Fixes)], o.Targets[:len(full.Targets)], o.Entries[:len(full.Entries)]
	return o, whole
}

// R3: arguments stay as they are, the spare room of their lists too.
func TestArgumentsStay(t *testing.T) {
	o, whole := roomy()
	asm.Check(o)
	asm.Print(o)
	o.Code, o.Data, o.Labels = o.Code[:len(whole.Code)], o.Data[:len(whole.Data)], o.Labels[:len(whole.Labels)]
	o.Fixes, o.Targets, o.Entries = o.Fixes[:len(whole.Fixes)], o.Targets[:len(whole.Targets)], o.Entries[:len(whole.Entries)]
	if !sameObject(o, whole) {
		t.Errorf("the object became %v", o)
	}
}

// clearings write over one list of an object each, spare room too.
func clearings() []func(o api.Object) {
	return []func(o api.Object){
		func(o api.Object) { clear(o.Code[:cap(o.Code)]) },
		func(o api.Object) { clear(o.Data[:cap(o.Data)]) },
		func(o api.Object) { clear(o.Labels[:cap(o.Labels)]) },
		func(o api.Object) { clear(o.Fixes[:cap(o.Fixes)]) },
		func(o api.Object) { clear(o.Targets[:cap(o.Targets)]) },
		func(o api.Object) { clear(o.Entries[:cap(o.Entries)]) },
	}
}

// R3: what is answered is memory of its own, spare room too, and no two lists of one answer share any.
func TestAnswersAreTheirOwn(t *testing.T) {
	for i, clearing := range clearings() {
		one, other := mustAssemble(t, sample), mustAssemble(t, sample)
		clearing(one)
		want := sampleObject()
		clearing(want)
		if !sameObject(one, want) {
			t.Errorf("list %d: %v", i, one)
		}
		if !sameObject(other, sampleObject()) {
			t.Errorf("list %d of another answer: %v", i, other)
		}
	}
	o := fullObject()
	s, _ := asm.Print(o)
	kept := strings.Clone(s)
	for _, clearing := range clearings() {
		clearing(o)
	}
	if s != kept {
		t.Errorf("the text became %q", s)
	}
}

// R3: no name of an object is a piece of the text.
func TestNamesHoldNoArgument(t *testing.T) {
	s := "open abc\nabc: const abc\ntarget abc\nentry \"abc\", abc\n"
	o := mustAssemble(t, s)
	begin := uintptr(unsafe.Pointer(unsafe.StringData(s)))
	for _, name := range []string{o.Labels[0].Name, o.Fixes[0].Name, o.Targets[0], o.Entries[0].Name, o.Entries[0].Label} {
		if at := uintptr(unsafe.Pointer(unsafe.StringData(name))); name != "abc" || at >= begin && at < begin+uintptr(len(s)) {
			t.Errorf("%q is a piece of the argument", name)
		}
	}
}

// R4: calls that go on side by side do not see one another, and a call does not see those ahead of it.
func TestSideBySide(t *testing.T) {
	var all sync.WaitGroup
	for n := range 8 {
		all.Go(func() {
			d := &dice{words: scattered(997), next: n * 100}
			for range 100 {
				o := someObject(d, "n")
				s, err := asm.Print(o)
				asm.Assemble("frob")
				if back, f := asm.Assemble(s); !sameObject(back, o) || f != (api.AsmFault{}) || err != api.OK {
					t.Errorf("Assemble(%q): %v, %v, want %v", s, back, f, o)
					return
				}
			}
		})
	}
	all.Wait()
}

// R1: no call panics, at whatever it is given, and each does what its promise says.
func FuzzEveryCall(f *testing.F) {
	f.Add(sample, uint32(0), uint32(3), "x", byte(1))
	f.Add("a: a: nop\nopen b", uint32(1<<32-1), uint32(2), " x", byte(2))
	f.Add("data\nword a+1, 'x', -1.5\nbyte 1,-1\nzero\nz: space 9", uint32(5), uint32(5), "", byte(3))
	f.Add("entry \"m\", a\nentry \"m\", b\nstack 1\nstack 2", uint32(65536), uint32(1), "\xff", byte(0))
	f.Add("const 0x1p3\nlocal 1.5\ntarget a, b, a", uint32(65537), uint32(9), "1", byte(4))
	f.Fuzz(func(t *testing.T, s string, zero, at uint32, name string, in byte) {
		o, fault := checkAssemble(t, s)
		if fault == (api.AsmFault{}) && asm.Check(o) != api.OK {
			t.Fatalf("Check of Assemble(%q)", s)
		}
		o.Zero = zero
		o.Labels = append(o.Labels, api.Label{Name: name, In: api.Section(in), At: at})
		o.Fixes = append(o.Fixes, api.Fix{In: api.Section(in), At: at, Name: name})
		for range 3 {
			err := asm.Check(o)
			if (err == api.OK) != checkBy(o) || err != api.OK && err != api.ErrObject {
				t.Fatalf("Check(%v): %d", o, err)
			}
			if told, refused := asm.Print(o); refused != err && refused != api.ErrAsmRoom || refused != api.OK && told != "" {
				t.Fatalf("Print(%v): %q, %d", o, told, refused)
			} else if refused == api.OK {
				checkPrint(t, o)
			}
			o.Labels, o.Fixes = o.Labels[:max(len(o.Labels)-1, 0)], o.Fixes[:max(len(o.Fixes)-1, 0)]
		}
	})
}

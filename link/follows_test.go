package link_test

import (
	"slices"
	"testing"

	"playpen/api"
	"playpen/asm"
	"playpen/image"
	"playpen/isa"
	"playpen/link"
)

// P11.5: what Link answers may be, lacks nothing, and has the values that Map tells.
func TestImageOfLink(t *testing.T) {
	d := &dice{words: scattered(99991)}
	linked, fixes := 0, 0
	for range 10000 {
		objects := someObjects(d, 60)
		im, _, err := link.Link(objects)
		if err != api.OK {
			continue
		}
		linked++
		if image.Check(im) != api.OK {
			t.Fatalf("image.Check of Link(%v): %d", objects, image.Check(im))
		}
		if names, at, err := link.Lacks(objects); len(names) != 0 || at != 0 || err != api.OK {
			t.Fatalf("Lacks(%v): %q, %d, %d", objects, names, at, err)
		}
		symbols, _, err := link.Map(objects)
		if err != api.OK {
			t.Fatalf("Map(%v): %d", objects, err)
		}
		for i, o := range objects {
			for _, fix := range o.Fixes {
				if fix.In == api.SecCode {
					fixes++
					checkOperand(t, objects, symbols, im, i, fix)
				}
			}
		}
	}
	if linked < 4000 || fixes < 4000 {
		t.Errorf("%d were linked, with %d fixes", linked, fixes)
	}
}

// checkOperand holds an instruction with a fix of object i against the symbol that its name means.
func checkOperand(t *testing.T, objects []api.Object, symbols []api.Symbol, im api.Image, i int, fix api.Fix) {
	t.Helper()
	own := func(s api.Symbol) bool { return s.Object == i && s.Name == fix.Name }
	n := slices.IndexFunc(symbols, own)
	if n < 0 {
		n = slices.IndexFunc(symbols, func(s api.Symbol) bool { return s.Open && s.Name == fix.Name })
	}
	at := base(objects, i, api.SecCode) + int(fix.At)
	if im.Code[at].Arg-fix.Add != symbols[n].Value {
		t.Fatalf("Link(%v): instruction %d is %v, the label %v", objects, at, im.Code[at], symbols[n])
	}
	if im.Code[at].Op != objects[i].Code[fix.At].Op {
		t.Fatalf("Link(%v): instruction %d is %v", objects, at, im.Code[at])
	}
}

// renamed gives an object with a label named otherwise wherever it stands.
func renamed(o api.Object, from, to string) api.Object {
	o = cloned([]api.Object{o})[0]
	turn := func(name *string) {
		if *name == from {
			*name = to
		}
	}
	for i := range o.Labels {
		turn(&o.Labels[i].Name)
	}
	for i := range o.Fixes {
		turn(&o.Fixes[i].Name)
	}
	for i := range o.Targets {
		turn(&o.Targets[i])
	}
	for i := range o.Entries {
		turn(&o.Entries[i].Label)
	}
	return o
}

// P11.6: the name of a label that is not open may be any other.
func TestOtherNames(t *testing.T) {
	d := &dice{words: scattered(99991)}
	tried := 0
	for range 10000 {
		objects := someObjects(d, 60)
		im, at, err := link.Link(objects)
		if err != api.OK {
			continue
		}
		for i, o := range objects {
			for _, label := range o.Labels {
				if label.Open {
					continue
				}
				others := slices.Clone(objects)
				others[i] = renamed(o, label.Name, "new")
				same, sameAt, sameErr := link.Link(others)
				if !sameImage(im, same) || at != sameAt || err != sameErr {
					t.Fatalf("Link(%v): %v, with %q of object %d named otherwise %v", objects, im, label.Name, i, same)
				}
				tried++
			}
		}
	}
	if tried < 4000 {
		t.Errorf("%d names were tried", tried)
	}
}

// onlyCode gives an object that has only code, with labels and fixes.
func onlyCode(d *dice) api.Object {
	o := api.Object{Labels: []api.Label{{Name: "n0", In: api.SecCode}, {Name: "n9", In: api.SecData}, {Name: "n8", In: api.SecZero}}}
	for range d.upTo(5) {
		in := api.Instr{Op: api.Op(1 + d.upTo(58))}
		if info, _ := isa.Info(in.Op); info.Most > 1000 && d.upTo(1) == 0 {
			o.Fixes = append(o.Fixes, api.Fix{In: api.SecCode, At: uint32(len(o.Code)), Name: "n" + string(rune('0'+d.upTo(9))), Add: uint32(d.upTo(9))})
		}
		o.Code = append(o.Code, in)
	}
	return o
}

// P11.7: an object more at the end that has only code changes the code alone, which goes on.
func TestOneMore(t *testing.T) {
	d := &dice{words: scattered(99991)}
	tried, longer := 0, 0
	for range 20000 {
		objects := someObjects(d, 60)
		last := onlyCode(d)
		if asm.Check(last) != api.OK {
			t.Fatalf("%v", last)
		}
		im, _, err := link.Link(objects)
		more, _, moreErr := link.Link(append(slices.Clone(objects), last))
		if err != api.OK || moreErr != api.OK {
			continue
		}
		if len(more.Code) != len(im.Code)+len(last.Code) {
			t.Fatalf("%d instructions behind %d", len(more.Code), len(im.Code))
		}
		if len(last.Code) > 0 {
			longer++
		}
		tried++
		more.Code = more.Code[:len(im.Code)]
		if !sameImage(im, more) {
			t.Fatalf("Link(%v): %v, with one more %v", objects, im, more)
		}
	}
	if tried < 3000 || longer < 2000 {
		t.Errorf("%d were tried, %d of them with code", tried, longer)
	}
}

// P11.3, P10.1: two assembled texts and their image.
func TestAssembledTexts(t *testing.T) {
	var objects []api.Object
	for _, s := range []string{
		"entry \"main\", start\nopen msg\nstart: enter 8\nconst print\ncall\nback: leave 8\ntarget back\ndata\nmsg: bytes \"hi\"\nword msg+1, buf\nzero\nbuf: space 3\nstack 256",
		"open print\nzero\nspace 4\ncode\nprint: enter 4\nconst msg - 1\nleave 4\ndata\nword print",
	} {
		o, fault := asm.Assemble(s)
		if fault != (api.AsmFault{}) {
			t.Fatalf("%q: %v", s, fault)
		}
		objects = append(objects, o)
	}
	im := mustLink(t, "two texts", objects)
	want := api.Image{
		Code: []api.Instr{
			{Op: api.OpEnter, Arg: 8}, {Op: api.OpConst, Arg: 4}, {Op: api.OpCall}, {Op: api.OpLeave, Arg: 8},
			{Op: api.OpEnter, Arg: 4}, {Op: api.OpConst, Arg: 1<<32 - 1}, {Op: api.OpLeave, Arg: 4},
		},
		Jumps: []uint32{3},
		Data:  []byte{'h', 'i', 1, 0, 0, 0, 14, 0, 0, 0, 4, 0, 0, 0},
		Zero:  7,
		Stack: 256,
		Names: []api.Export{{Name: "main", At: 0}},
	}
	if !sameImage(im, want) {
		t.Errorf("%v", im)
	}
}

package link_test

import (
	"slices"
	"strconv"
	"testing"

	"playpen/api"
	"playpen/link"
)

// nops gives so many instructions.
func nops(count int) []api.Instr { return slices.Repeat([]api.Instr{{Op: api.OpNop}}, count) }

// open gives an open label at the beginning of the code.
func open(name string) api.Label { return api.Label{Name: name, In: api.SecCode, Open: true} }

// P11.1: one object at least, 64 at most.
func TestNumberOfObjects(t *testing.T) {
	bad := api.Object{Code: []api.Instr{{}}}
	for _, objects := range [][]api.Object{nil, {}, make([]api.Object, 65), slices.Repeat([]api.Object{bad}, 65), make([]api.Object, 1000)} {
		tryLayout(t, strconv.Itoa(len(objects))+" objects", objects, 0, api.ErrObjects)
		if names, at, err := link.Lacks(objects); len(names) != 0 || at != 0 || err != api.ErrObjects {
			t.Errorf("%d objects: Lacks: %q, %d, %d", len(objects), names, at, err)
		}
	}
	for _, count := range []int{1, 63, 64} {
		objects := slices.Repeat([]api.Object{{Code: nops(2), Data: []byte{7}}}, count)
		if checkAll(t, objects) != api.OK {
			t.Errorf("%d objects were refused", count)
		}
	}
	im := mustLink(t, "an empty object", make([]api.Object, 1))
	if !sameImage(im, api.Image{Stack: 64}) {
		t.Errorf("%v", im)
	}
}

// P11.1: an object that may not be is told, the first of them.
func TestObjectThatMayNotBe(t *testing.T) {
	for what, spoil := range map[string]func(o *api.Object){
		"an instruction": func(o *api.Object) { o.Code[0].Op = 60 },
		"an operand":     func(o *api.Object) { o.Code[0].Arg = 65536 },
		"a label's name": func(o *api.Object) { o.Labels[0].Name = "1" },
		"a label's At":   func(o *api.Object) { o.Labels[0].At = 77 },
		"a label twice":  func(o *api.Object) { o.Labels[1].Name = o.Labels[0].Name },
		"a fix beyond":   func(o *api.Object) { o.Fixes = []api.Fix{{In: api.SecData, At: 1 << 31, Name: "f"}} },
		"a target":       func(o *api.Object) { o.Targets = []string{"x", "x"} },
		"an entry":       func(o *api.Object) { o.Entries = []api.Entry{{Name: "", Label: "f"}} },
		"noughts":        func(o *api.Object) { o.Zero = 65537 },
		"data":           func(o *api.Object) { o.Data = make([]byte, 65537) },
	} {
		for i := range 2 {
			objects := two()
			spoil(&objects[i])
			tryLayout(t, what, objects, i, api.ErrObject)
			if names, at, err := link.Lacks(objects); len(names) != 0 || at != i || err != api.ErrObject {
				t.Errorf("%s: Lacks: %q, %d, %d", what, names, at, err)
			}
			spoil(&objects[1])
			tryLayout(t, what+" of both", objects, i, api.ErrObject)
		}
	}
}

// P11.1: open labels of one name, in whatever sections, clash; others do not.
func TestOpenLabelsClash(t *testing.T) {
	for in := api.SecCode; in <= api.SecZero; in++ {
		for isOpen := range 8 {
			objects := []api.Object{{Labels: []api.Label{open("x")}}, {Labels: []api.Label{{Name: "y", In: in, Open: true}}}, {Labels: []api.Label{{Name: "x", In: in}}}}
			for i := range objects {
				objects[i].Labels[0].Open = isOpen>>i&1 == 1
			}
			if isOpen&1 == 1 && isOpen&4 == 4 {
				tryLayout(t, "x is open twice", objects, 2, api.ErrClash)
				continue
			}
			mustLink(t, "x is open once at most", objects)
		}
	}
	objects := []api.Object{
		{Labels: []api.Label{open("a")}}, {Labels: []api.Label{open("b"), open("c")}}, {Labels: []api.Label{open("d"), open("c")}}, {Labels: []api.Label{open("a")}},
	}
	tryLayout(t, "c, and later a", objects, 2, api.ErrClash)
	objects[2].Labels = objects[2].Labels[:1]
	tryLayout(t, "a", objects, 3, api.ErrClash)
}

// P11.1: the instructions of all objects up to the one at fault.
func TestInstructionsTogether(t *testing.T) {
	mustLink(t, "16384 of one", []api.Object{{Code: nops(16384)}})
	mustLink(t, "16384 of three", []api.Object{{Code: nops(8000)}, {}, {Code: nops(8384)}})
	objects := []api.Object{{Code: nops(8000)}, {Code: nops(8384)}, {}, {Code: nops(1)}, {Code: nops(1)}}
	tryLayout(t, "one more", objects, 3, api.ErrInstrs)
	if names, at, err := link.Lacks(objects); len(names) != 0 || at != 0 || err != api.OK {
		t.Errorf("Lacks: %q, %d, %d", names, at, err)
	}
	im := mustLink(t, "no more", objects[:3])
	if len(im.Code) != 16384 {
		t.Errorf("%d instructions", len(im.Code))
	}
	tryLayout(t, "far more", slices.Repeat([]api.Object{{Code: nops(16384)}}, 64), 1, api.ErrInstrs)
}

// P11.1: an object's stack is none, or one that an image may have.
func TestStacks(t *testing.T) {
	for _, c := range []struct {
		stack uint32
		may   bool
	}{
		{0, true}, {64, true}, {68, true}, {128, true}, {32764, true}, {32768, true},
		{1, false}, {4, false}, {60, false}, {63, false}, {65, false}, {66, false}, {67, false}, {32767, false}, {32769, false}, {32772, false}, {65536, false}, {1 << 31, false}, {1<<32 - 4, false},
	} {
		for i := range 3 {
			objects := make([]api.Object, 3)
			objects[i].Stack = c.stack
			if !c.may {
				tryLayout(t, "stack "+strconv.Itoa(int(c.stack)), objects, i, api.ErrSize)
				continue
			}
			if im := mustLink(t, "stack", objects); im.Stack != max(c.stack, 64) {
				t.Errorf("stack %d: %d", c.stack, im.Stack)
			}
		}
	}
	for _, c := range [][4]uint32{{64, 64, 0, 64}, {64, 72, 68, 72}, {0, 0, 100, 100}, {32768, 64, 32764, 32768}, {0, 0, 0, 64}} {
		im := mustLink(t, "stacks", []api.Object{{Stack: c[0]}, {Stack: c[1]}, {Stack: c[2]}})
		if im.Stack != c[3] {
			t.Errorf("stacks %v: %d", c, im.Stack)
		}
	}
}

// P11.1: data, noughts and the stack have 65536 bytes together.
func TestSizeTogether(t *testing.T) {
	part := func(data int, zero, stack uint32) api.Object {
		return api.Object{Data: make([]byte, data), Zero: zero, Stack: stack}
	}
	for _, c := range []struct {
		what    string
		objects []api.Object
		may     bool
	}{
		{"noughts", []api.Object{part(0, 65472, 0)}, true},
		{"noughts", []api.Object{part(0, 65473, 0)}, false},
		{"data", []api.Object{part(65472, 0, 0)}, true},
		{"data", []api.Object{part(65473, 0, 0)}, false},
		{"a stack", []api.Object{part(0, 0, 32768), part(16384, 16384, 0)}, true},
		{"a stack", []api.Object{part(0, 0, 32768), part(16385, 16384, 0)}, false},
		{"a stack", []api.Object{part(16384, 16385, 0), part(0, 0, 32768), part(0, 0, 64)}, false},
		{"three", []api.Object{part(100, 200, 0), part(300, 400, 0), part(30000, 34472, 0)}, true},
		{"three", []api.Object{part(101, 200, 0), part(300, 400, 0), part(30000, 34472, 0)}, false},
		{"three", []api.Object{part(30000, 34472, 0), part(300, 401, 0), part(100, 200, 0)}, false},
		{"all there can be", slices.Repeat([]api.Object{part(65536, 65536, 32768)}, 64), false},
	} {
		if c.may {
			im := mustLink(t, c.what, c.objects)
			if sum := len(im.Data) + int(im.Zero) + int(im.Stack); sum != 65536 {
				t.Errorf("%s: %d", c.what, sum)
			}
			continue
		}
		tryLayout(t, c.what, c.objects, len(c.objects)-1, api.ErrSize)
		if names, at, err := link.Lacks(c.objects); len(names) != 0 || at != 0 || err != api.OK {
			t.Errorf("%s: Lacks: %q, %d, %d", c.what, names, at, err)
		}
	}
}

// spoilers are the faults of an object, in the order in which they are told; the objects ahead have an open x.
func spoilers() []struct {
	err   api.Errno
	spoil func(o *api.Object)
} {
	return []struct {
		err   api.Errno
		spoil func(o *api.Object)
	}{
		{api.ErrObject, func(o *api.Object) { o.Data = make([]byte, 65537) }},
		{api.ErrClash, func(o *api.Object) { o.Labels = []api.Label{open("x")} }},
		{api.ErrInstrs, func(o *api.Object) { o.Code = nops(16384) }},
		{api.ErrSize, func(o *api.Object) { o.Stack = 66 }},
	}
}

// P11.1: of two faults of an object the first is told, of faults of two objects that of the first one, and the size comes last.
func TestLayoutOrder(t *testing.T) {
	for i, first := range spoilers() {
		for j, second := range spoilers() {
			objects := []api.Object{{Code: nops(1), Labels: []api.Label{open("x")}, Data: make([]byte, 65536)}, {}, {}, {Zero: 65536}}
			first.spoil(&objects[1])
			second.spoil(&objects[2])
			tryLayout(t, "faults "+strconv.Itoa(i)+" and "+strconv.Itoa(j), objects, 1, first.err)
			objects[1] = api.Object{}
			if i < j {
				first.spoil(&objects[2])
				tryLayout(t, "faults of one, "+strconv.Itoa(i)+" and "+strconv.Itoa(j), objects, 2, first.err)
			}
		}
	}
}

// P11.1, P11.3: a fault of the layout comes ahead of one of a name, in whatever object.
func TestLayoutAheadOfNames(t *testing.T) {
	for _, c := range spoilers() {
		objects := two()
		objects[0].Labels = append([]api.Label{open("x")}, objects[0].Labels...)
		objects[0].Fixes[0].Name = "nowhere"
		tryNames(t, "a fix", objects, 0, api.ErrMissing)
		c.spoil(&objects[1])
		tryLayout(t, "a fix and a later fault", objects, 1, c.err)
	}
	objects := two()
	objects[0].Fixes[0].Name = "nowhere"
	objects[1].Zero = 65536
	tryLayout(t, "a fix and the size", objects, 1, api.ErrSize)
}

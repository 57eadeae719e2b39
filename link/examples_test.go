package link_test

import (
	"slices"
	"testing"

	"playpen/api"
	"playpen/link"
)

// Example 1.
func TestExampleImage(t *testing.T) {
	if im := mustLink(t, "the two", two()); !sameImage(im, twoLinked()) {
		t.Errorf("%v", im)
	}
	if names, at, err := link.Lacks(two()); len(names) != 0 || at != 0 || err != api.OK {
		t.Errorf("Lacks: %q, %d, %d", names, at, err)
	}
}

// Example 2.
func TestExampleMap(t *testing.T) {
	symbols, at, err := link.Map(two())
	want := []api.Symbol{
		{Object: 0, Name: "main", In: api.SecCode, Value: 0, Open: true},
		{Object: 0, Name: "d", In: api.SecData, Value: 2},
		{Object: 1, Name: "f", In: api.SecCode, Value: 4, Open: true},
		{Object: 1, Name: "z", In: api.SecZero, Value: 6},
	}
	if !slices.Equal(symbols, want) || at != 0 || err != api.OK {
		t.Errorf("%v, %d, %d", symbols, at, err)
	}
}

// Example 3.
func TestExampleNotOpen(t *testing.T) {
	objects := two()
	objects[1].Labels[0].Open = false
	tryNames(t, "f is not open", objects, 0, api.ErrMissing)
	if names, at, err := link.Lacks(objects); !slices.Equal(names, []string{"f"}) || at != 0 || err != api.OK {
		t.Errorf("Lacks: %q, %d, %d", names, at, err)
	}
	objects[0].Fixes = nil
	if im := mustLink(t, "the entry", objects); !slices.Equal(im.Names, []api.Export{{Name: "run", At: 4}}) {
		t.Errorf("%v", im.Names)
	}
}

// Example 4.
func TestExampleTwoOfOneName(t *testing.T) {
	objects := two()
	objects[0].Labels = slices.Insert(objects[0].Labels, 1, api.Label{Name: "f", In: api.SecCode, At: 3, Open: true})
	tryLayout(t, "an open f twice", objects, 1, api.ErrClash)
	objects[0].Labels[1].Open = false
	im := mustLink(t, "an f of its own", objects)
	if im.Code[1] != (api.Instr{Op: api.OpConst, Arg: 3}) {
		t.Errorf("%v", im.Code)
	}
	if !slices.Equal(im.Names, []api.Export{{Name: "run", At: 4}}) {
		t.Errorf("%v", im.Names)
	}
}

// Example 5.
func TestExampleGoto(t *testing.T) {
	for _, c := range []struct {
		add  uint32
		laid uint32
		err  api.Errno
	}{
		{0, 4, api.OK}, {16379, 16383, api.OK}, {16380, 0, api.ErrFix}, {1<<32 - 1, 3, api.OK}, {1<<32 - 4, 0, api.OK}, {1<<32 - 5, 0, api.ErrFix},
	} {
		objects := two()
		objects[1].Code[1] = api.Instr{Op: api.OpGoto}
		objects[1].Fixes = []api.Fix{{In: api.SecCode, At: 1, Name: "f", Add: c.add}}
		if c.err != api.OK {
			tryNames(t, "a goto beyond its most", objects, 1, c.err)
			continue
		}
		if im := mustLink(t, "a goto", objects); im.Code[5] != (api.Instr{Op: api.OpGoto, Arg: c.laid}) {
			t.Errorf("Add %d: %v", c.add, im.Code[5])
		}
	}
}

// Example 6.
func TestExampleRest(t *testing.T) {
	objects := two()
	objects[0].Targets = []string{"d"}
	tryNames(t, "a target of the data", objects, 0, api.ErrInCode)
	objects = two()
	objects[0].Stack = 128
	if im := mustLink(t, "stacks 128 and 0", objects); im.Stack != 128 {
		t.Errorf("Stack %d", im.Stack)
	}
	objects[1].Stack = 66
	tryLayout(t, "stack 66", objects, 1, api.ErrSize)
	tryLayout(t, "no objects", nil, 0, api.ErrObjects)
	if names, at, err := link.Lacks(nil); len(names) != 0 || at != 0 || err != api.ErrObjects {
		t.Errorf("Lacks: %q, %d, %d", names, at, err)
	}
}

// Example 7.
func TestExampleFixOfData(t *testing.T) {
	objects := two()
	objects[1].Data = []byte{0, 0, 0, 0, 9}
	objects[1].Fixes = []api.Fix{{In: api.SecData, At: 0, Name: "z", Add: 1}}
	im := mustLink(t, "a fix of the data", objects)
	if !slices.Equal(im.Data, []byte{1, 2, 3, 11, 0, 0, 0, 9}) {
		t.Errorf("%v", im.Data)
	}
}

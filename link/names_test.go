package link_test

import (
	"slices"
	"strconv"
	"testing"

	"playpen/api"
)

// P11.3: a name means the object's own label, open or not, else the open one of another object, ahead of it or behind it.
func TestWhatANameMeans(t *testing.T) {
	for asking := range 3 {
		for has := range 27 {
			objects := make([]api.Object, 3)
			kinds := [3]int{has % 3, has / 3 % 3, has / 9} // no label of the name, one that is not open, an open one
			opened, want := 0, -1
			for i, kind := range kinds {
				objects[i].Code = []api.Instr{{Op: api.OpConst}, {Op: api.OpNop}}
				if kind > 0 {
					objects[i].Labels = []api.Label{{Name: "x", In: api.SecCode, At: 1, Open: kind == 2}}
				}
				if kind == 2 {
					opened++
					want = 2*i + 1
				}
			}
			if kinds[asking] > 0 {
				want = 2*asking + 1
			}
			objects[asking].Fixes = []api.Fix{{In: api.SecCode, Name: "x"}}
			switch {
			case opened > 1:
				checkAll(t, objects)
			case want < 0:
				tryNames(t, "x is nowhere", objects, asking, api.ErrMissing)
			default:
				if im := mustLink(t, "x", objects); im.Code[2*asking].Arg != uint32(want) {
					t.Errorf("object %d asks, labels %v: %d, want %d", asking, kinds, im.Code[2*asking].Arg, want)
				}
			}
		}
	}
}

// P11.3: every operation with an operand takes a fix up to its most, and no further; what is nought stays allowed.
func TestFixOfEveryOperation(t *testing.T) {
	most := map[api.Op]uint32{api.OpEnter: 65535, api.OpLeave: 65535, api.OpGoto: 16383, api.OpConst: 1<<32 - 1, api.OpLocal: 1<<32 - 1, api.OpArg: 14, api.OpCopy: 256}
	for op := api.OpEq; op <= api.OpGef; op++ {
		most[op] = 16383
	}
	for op, greatest := range most {
		for _, value := range []uint32{0, 1, greatest - 1, greatest, greatest + 1, greatest + 3, 1<<32 - 1} {
			objects := []api.Object{{Code: nops(3)}, {
				Code:   []api.Instr{{Op: api.OpNop}, {Op: op}},
				Labels: []api.Label{{Name: "x", In: api.SecCode, At: 2}},
				Fixes:  []api.Fix{{In: api.SecCode, At: 1, Name: "x", Add: value - 5}},
			}}
			if value > greatest {
				tryNames(t, "an operand above the most", objects, 1, api.ErrFix)
				continue
			}
			if im := mustLink(t, "an operand", objects); im.Code[4] != (api.Instr{Op: op, Arg: value}) {
				t.Errorf("operation %d: %v, want %d", op, im.Code[4], value)
			}
		}
	}
}

// P11.3: fixes of the data, side by side and at the data's end, with an Add that goes round.
func TestFixesOfData(t *testing.T) {
	objects := []api.Object{
		{Data: []byte{1, 2}, Zero: 3, Labels: []api.Label{{Name: "end", In: api.SecData, At: 2, Open: true}, {Name: "last", In: api.SecZero, At: 3, Open: true}}},
		{
			Code: nops(2), Data: append([]byte{8}, make([]byte, 16)...),
			Labels: []api.Label{{Name: "code", In: api.SecCode, At: 2}, {Name: "mine", In: api.SecData, At: 1}},
			Fixes: []api.Fix{
				{In: api.SecData, At: 1, Name: "end", Add: 1<<32 - 3},
				{In: api.SecData, At: 5, Name: "last", Add: 0x01020300},
				{In: api.SecData, At: 9, Name: "code", Add: 1<<32 - 2},
				{In: api.SecData, At: 13, Name: "mine"},
			},
		},
		{Data: []byte{5}},
	}
	im := mustLink(t, "fixes of the data", objects)
	want := []byte{1, 2, 8, 255, 255, 255, 255, 23, 3, 2, 1, 0, 0, 0, 0, 3, 0, 0, 0, 5}
	if !slices.Equal(im.Data, want) {
		t.Errorf("%v, want %v", im.Data, want)
	}
}

// P11.3: targets are places of the code, each value is told once, and they rise.
func TestTargets(t *testing.T) {
	objects := []api.Object{
		{Code: nops(3), Zero: 1, Labels: []api.Label{open("a"), {Name: "b", In: api.SecCode, At: 2}, {Name: "c", In: api.SecCode, At: 2}, {Name: "e", In: api.SecCode, At: 3}}},
		{Code: nops(2), Data: []byte{1}, Labels: []api.Label{open("f"), {Name: "b", In: api.SecCode, At: 1}, {Name: "d", In: api.SecData, Open: true}, {Name: "z", In: api.SecZero}}},
	}
	for _, c := range []struct {
		first, second []string
		at            int
		err           api.Errno
		want          []uint32
	}{
		{[]string{"e", "b", "c", "a"}, nil, 0, api.OK, []uint32{0, 2, 3}},
		{[]string{"f", "a"}, []string{"b", "a", "f"}, 0, api.OK, []uint32{0, 3, 4}},
		{[]string{"e"}, []string{"f"}, 0, api.OK, []uint32{3}},
		{[]string{"d"}, nil, 0, api.ErrInCode, nil},
		{nil, []string{"d"}, 1, api.ErrInCode, nil},
		{nil, []string{"z"}, 1, api.ErrInCode, nil},
		{[]string{"z"}, nil, 0, api.ErrMissing, nil},
		{[]string{"a", "z", "d"}, nil, 0, api.ErrMissing, nil},
		{[]string{"a", "d", "z"}, nil, 0, api.ErrInCode, nil},
		{[]string{"a"}, []string{"f", "c", "d"}, 1, api.ErrMissing, nil},
		{nil, nil, 0, api.OK, nil},
	} {
		objects[0].Targets, objects[1].Targets = c.first, c.second
		if c.err != api.OK {
			tryNames(t, "targets", objects, c.at, c.err)
			continue
		}
		if im := mustLink(t, "targets", objects); !slices.Equal(im.Jumps, c.want) {
			t.Errorf("%q, %q: %v, want %v", c.first, c.second, im.Jumps, c.want)
		}
	}
}

// P11.3: entries are places of the code, their names clash with none of an object ahead, and rise byte by byte.
func TestEntries(t *testing.T) {
	objects := []api.Object{
		{Code: nops(3), Labels: []api.Label{open("a"), {Name: "own", In: api.SecCode, At: 2}, {Name: "d", In: api.SecData, Open: true}}},
		{Code: nops(2), Labels: []api.Label{{Name: "b", In: api.SecCode, At: 1, Open: true}, {Name: "z", In: api.SecZero}}},
	}
	type entries []api.Entry
	for _, c := range []struct {
		first, second entries
		at            int
		err           api.Errno
		want          []api.Export
	}{
		{entries{{Name: "b", Label: "own"}, {Name: "a", Label: "b"}}, entries{{Name: "\xff", Label: "a"}, {Name: "aa", Label: "b"}, {Name: "A", Label: "b"}, {Name: "\x00", Label: "b"}}, 0, api.OK,
			[]api.Export{{Name: "\x00", At: 4}, {Name: "A", At: 4}, {Name: "a", At: 4}, {Name: "aa", At: 4}, {Name: "b", At: 2}, {Name: "\xff", At: 0}}},
		{entries{{Name: "x", Label: "z"}}, nil, 0, api.ErrMissing, nil},
		{entries{{Name: "x", Label: "d"}}, nil, 0, api.ErrInCode, nil},
		{nil, entries{{Name: "x", Label: "own"}}, 1, api.ErrMissing, nil},
		{nil, entries{{Name: "x", Label: "z"}}, 1, api.ErrInCode, nil},
		{nil, entries{{Name: "x", Label: "d"}}, 1, api.ErrInCode, nil},
		{entries{{Name: "x", Label: "a"}}, entries{{Name: "x", Label: "a"}}, 1, api.ErrClash, nil},
		{entries{{Name: "x", Label: "a"}}, entries{{Name: "x", Label: "own"}}, 1, api.ErrMissing, nil},
		{entries{{Name: "x", Label: "a"}}, entries{{Name: "x", Label: "z"}}, 1, api.ErrInCode, nil},
		{entries{{Name: "x", Label: "a"}}, entries{{Name: "x", Label: "a"}, {Name: "y", Label: "own"}}, 1, api.ErrClash, nil},
		{entries{{Name: "x", Label: "a"}}, entries{{Name: "y", Label: "z"}, {Name: "x", Label: "own"}}, 1, api.ErrInCode, nil},
		{entries{{Name: "x", Label: "a"}, {Name: "y", Label: "d"}}, entries{{Name: "x", Label: "a"}}, 0, api.ErrInCode, nil},
	} {
		objects[0].Entries, objects[1].Entries = c.first, c.second
		if c.err != api.OK {
			tryNames(t, "entries", objects, c.at, c.err)
			continue
		}
		if im := mustLink(t, "entries", objects); !slices.Equal(im.Names, c.want) {
			t.Errorf("%q, %q: %v, want %v", c.first, c.second, im.Names, c.want)
		}
	}
}

// entriesOf gives so many entries, from a number on.
func entriesOf(from, count int) []api.Entry {
	var list []api.Entry
	for i := range count {
		list = append(list, api.Entry{Name: "e" + strconv.Itoa(from+i), Label: "a"})
	}
	return list
}

// P11.3: 64 names, of one object or of several; the one behind them is at fault, when nothing else is.
func TestNamesTogether(t *testing.T) {
	objects := []api.Object{{Labels: []api.Label{open("a")}, Entries: entriesOf(0, 64)}, {}, {Labels: []api.Label{{Name: "d", In: api.SecData}}}}
	if im := mustLink(t, "64 of one", objects); len(im.Names) != 64 {
		t.Errorf("%d names", len(im.Names))
	}
	objects[0].Entries, objects[1].Entries, objects[2].Entries = entriesOf(0, 1), entriesOf(1, 62), entriesOf(63, 1)
	if im := mustLink(t, "64 of three", objects); len(im.Names) != 64 || !slices.IsSortedFunc(im.Names, func(x, y api.Export) int { return slices.Compare([]byte(x.Name), []byte(y.Name)) }) {
		t.Errorf("%v", im.Names)
	}
	objects[2].Entries = entriesOf(63, 2)
	tryNames(t, "65", objects, 2, api.ErrNames)
	for _, c := range []struct {
		entry api.Entry
		err   api.Errno
	}{
		{api.Entry{Name: "new", Label: "a"}, api.ErrNames}, {api.Entry{Name: "e0", Label: "a"}, api.ErrClash}, {api.Entry{Name: "e0", Label: "q"}, api.ErrMissing}, {api.Entry{Name: "e0", Label: "d"}, api.ErrInCode},
	} {
		objects[2].Entries = append(entriesOf(63, 1), c.entry)
		tryNames(t, "65", objects, 2, c.err)
	}
}

// tableOf gives objects whose targets are the places of all instructions, and their end's too: 16385 values. Each has at most 4096 labels.
func tableOf() []api.Object {
	var objects []api.Object
	for range 4 {
		o := api.Object{Code: nops(4096)}
		for at := range 4096 {
			name := "l" + strconv.Itoa(at)
			o.Labels = append(o.Labels, api.Label{Name: name, In: api.SecCode, At: uint32(at)})
			o.Targets = append(o.Targets, name)
		}
		objects = append(objects, o)
	}
	return append(objects, api.Object{Labels: []api.Label{{Name: "end", In: api.SecCode}, {Name: "same", In: api.SecCode}}, Targets: []string{"end", "same"}})
}

// P11.3: 16384 values of targets, however many targets have them.
func TestTable(t *testing.T) {
	tryNames(t, "16385 values", tableOf(), 4, api.ErrTable)
	objects := tableOf()
	im := mustLink(t, "the last object first", append(slices.Clone(objects[4:]), objects[:4]...))
	if len(im.Jumps) != 16384 || im.Jumps[0] != 0 || im.Jumps[16383] != 16383 {
		t.Errorf("%d jumps", len(im.Jumps))
	}
	objects = tableOf()
	objects[1].Targets = objects[1].Targets[1:]
	im = mustLink(t, "a target less", objects)
	if len(im.Jumps) != 16384 || im.Jumps[4095] != 4095 || im.Jumps[4096] != 4097 || im.Jumps[16383] != 16384 {
		t.Errorf("%d jumps", len(im.Jumps))
	}
}

// P11.3: the table is asked object by object, behind the entries, and names that are open elsewhere count where they are named.
func TestTableOrder(t *testing.T) {
	objects := tableOf()
	objects[4].Labels[0].Open = true
	objects[0].Targets = append(objects[0].Targets, "end")
	objects[4].Targets = []string{"nowhere"}
	tryNames(t, "the end is named first", objects, 3, api.ErrTable)
	objects[3].Entries = []api.Entry{{Name: "x", Label: "nowhere"}}
	tryNames(t, "an entry of that object", objects, 3, api.ErrMissing)
	objects[3].Entries[0].Label = "l0"
	tryNames(t, "an entry that may be", objects, 3, api.ErrTable)
	objects[3].Targets = append(objects[3].Targets, "nowhere")
	tryNames(t, "a target behind", objects, 3, api.ErrMissing)
}

// faulty gives three objects, and ways to spoil one of them, in the order in which they are told.
func faulty() ([]api.Object, []func(o *api.Object) api.Errno) {
	objects := make([]api.Object, 3)
	for i := range objects {
		objects[i] = api.Object{
			Code:    []api.Instr{{Op: api.OpGoto}, {Op: api.OpConst}},
			Data:    make([]byte, 4),
			Labels:  []api.Label{{Name: "c", In: api.SecCode}, {Name: "d", In: api.SecData}},
			Fixes:   []api.Fix{{In: api.SecCode, At: 0, Name: "c"}, {In: api.SecCode, At: 1, Name: "d"}, {In: api.SecData, At: 0, Name: "c"}},
			Targets: []string{"c"},
			Entries: []api.Entry{{Name: "one" + strconv.Itoa(i), Label: "c"}, {Name: "two" + strconv.Itoa(i), Label: "c"}},
		}
	}
	return objects, []func(o *api.Object) api.Errno{
		func(o *api.Object) api.Errno { o.Fixes[0].Add = 16384; return api.ErrFix },
		func(o *api.Object) api.Errno { o.Fixes[1].Name = "nowhere"; return api.ErrMissing },
		func(o *api.Object) api.Errno { o.Fixes[2].Name = "nowhere"; return api.ErrMissing },
		func(o *api.Object) api.Errno { o.Targets[0] = "d"; return api.ErrInCode },
		func(o *api.Object) api.Errno { o.Targets = append(o.Targets[:1], "nowhere"); return api.ErrMissing },
		func(o *api.Object) api.Errno { o.Entries[0].Label = "d"; return api.ErrInCode },
		func(o *api.Object) api.Errno { o.Entries[1].Name = "one0"; return api.ErrClash },
	}
}

// P11.3: of two faults of one object the first is told, of faults of two objects that of the first one.
func TestOrderOfFaults(t *testing.T) {
	_, ways := faulty()
	for i := range ways {
		for j := range ways {
			objects, ways := faulty()
			first := ways[i](&objects[1])
			tryNames(t, "fault "+strconv.Itoa(i), objects, 1, first)
			ways[j](&objects[2])
			tryNames(t, "faults "+strconv.Itoa(i)+" and "+strconv.Itoa(j), objects, 1, first)
			objects, ways = faulty()
			ways[max(i, j)](&objects[1])
			first = ways[min(i, j)](&objects[1])
			tryNames(t, "faults of one, "+strconv.Itoa(i)+" and "+strconv.Itoa(j), objects, 1, first)
		}
	}
}

// P11.3: objects of all kinds, against the document's words; all errors come up.
func TestScattered(t *testing.T) {
	d := &dice{words: scattered(99991)}
	told := map[api.Errno]int{}
	for range 20000 {
		told[checkAll(t, someObjects(d, 40))]++
	}
	for _, err := range []api.Errno{api.OK, api.ErrMissing, api.ErrClash, api.ErrInCode, api.ErrFix} {
		if told[err] < 200 {
			t.Errorf("error %d came up %d times", err, told[err])
		}
	}
}

// P11.3: entries of one name in two objects clash, wherever the names of open labels do not.
func TestEntriesOfOneNameClash(t *testing.T) {
	objects := two()
	objects[0].Entries = []api.Entry{{Name: "run", Label: "main"}}
	tryNames(t, "run twice", objects, 1, api.ErrClash)
	objects[0].Entries[0].Name = "f"
	if im := mustLink(t, "an entry of a label's name", objects); !slices.Equal(im.Names, []api.Export{{Name: "f", At: 0}, {Name: "run", At: 4}}) {
		t.Errorf("%v", im.Names)
	}
}

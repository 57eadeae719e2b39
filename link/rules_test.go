package link_test

import (
	"slices"
	"sync"
	"testing"
	"unsafe"

	"playpen/api"
	"playpen/link"
)

// full gives objects of which every list has something, and which can be linked.
func full() []api.Object {
	objects := two()
	objects[0].Targets = []string{"main", "f"}
	objects[0].Entries = []api.Entry{{Name: "go", Label: "main"}}
	objects[1].Data = []byte{9, 0, 0, 0, 0}
	objects[1].Fixes = []api.Fix{{In: api.SecData, At: 1, Name: "z", Add: 1}}
	objects[1].Targets = []string{"f"}
	return objects
}

// roomy gives the full objects with something in the spare room of each list.
func roomy(objects []api.Object) []api.Object {
	objects = cloned(objects)
	for i, o := range objects {
		o.Code = append(o.Code, api.Instr{Op: 77})[:len(o.Code)]
		o.Data = append(o.Data, 77)[:len(o.Data)]
		o.Labels = append(o.Labels, api.Label{Name: "spare"})[:len(o.Labels)]
		o.Fixes = append(o.Fixes, api.Fix{Name: "spare"})[:len(o.Fixes)]
		o.Targets = append(o.Targets, "spare")[:len(o.Targets)]
		o.Entries = append(o.Entries, api.Entry{Name: "spare"})[:len(o.Entries)]
		objects[i] = o
	}
	return append(objects, api.Object{Zero: 77})[:len(objects)]
}

// unfolded gives objects with one element more in each list, out of the spare room.
func unfolded(objects []api.Object) []api.Object {
	list := slices.Clone(objects)
	for i, o := range list {
		o.Code, o.Data, o.Labels = o.Code[:len(o.Code)+1], o.Data[:len(o.Data)+1], o.Labels[:len(o.Labels)+1]
		o.Fixes, o.Targets, o.Entries = o.Fixes[:len(o.Fixes)+1], o.Targets[:len(o.Targets)+1], o.Entries[:len(o.Entries)+1]
		list[i] = o
	}
	return append(list, objects[:len(objects)+1][len(objects)])
}

// R3: arguments stay as they are, the spare room of their lists too, whatever the call answers.
func TestArgumentsStay(t *testing.T) {
	lacking := full()
	lacking[1].Fixes[0].Name = "nowhere"
	late := full()
	late[1].Entries[0].Label = "z"
	for _, start := range [][]api.Object{full(), lacking, late} {
		objects := roomy(start)
		kept := cloned(unfolded(objects))
		link.Link(objects)
		link.Map(objects)
		link.Lacks(objects)
		if !slices.EqualFunc(unfolded(objects), kept, sameObject) {
			t.Errorf("the objects became %v", unfolded(objects))
		}
	}
}

// wipe writes over all lists of objects.
func wipe(objects []api.Object) {
	for _, o := range objects {
		clear(o.Code[:cap(o.Code)])
		clear(o.Data[:cap(o.Data)])
		clear(o.Labels[:cap(o.Labels)])
		clear(o.Fixes[:cap(o.Fixes)])
		clear(o.Targets[:cap(o.Targets)])
		clear(o.Entries[:cap(o.Entries)])
	}
	clear(objects)
}

// clearings write over one list of an image each, spare room too.
func clearings() []func(im api.Image) {
	return []func(im api.Image){
		func(im api.Image) { clear(im.Code[:cap(im.Code)]) },
		func(im api.Image) { clear(im.Jumps[:cap(im.Jumps)]) },
		func(im api.Image) { clear(im.Data[:cap(im.Data)]) },
		func(im api.Image) { clear(im.Names[:cap(im.Names)]) },
	}
}

// copied gives an image with lists of its own.
func copied(im api.Image) api.Image {
	im.Code, im.Jumps, im.Data, im.Names = slices.Clone(im.Code), slices.Clone(im.Jumps), slices.Clone(im.Data), slices.Clone(im.Names)
	return im
}

// R3: what is answered is memory of its own, spare room too, and no two lists of one answer share any.
func TestAnswersAreTheirOwn(t *testing.T) {
	for i, clearing := range clearings() {
		objects := full()
		one, other := mustLink(t, "one", objects), mustLink(t, "another", objects)
		kept := copied(one)
		clearing(one)
		want := copied(kept)
		clearing(want)
		if !sameImage(one, want) {
			t.Errorf("list %d: %v", i, one)
		}
		if !sameImage(other, kept) {
			t.Errorf("list %d of another answer: %v", i, other)
		}
		if !slices.EqualFunc(objects, full(), sameObject) {
			t.Errorf("list %d: the objects became %v", i, objects)
		}
	}
}

// R3: no answer hangs on arguments that are written over later, nor does one object alone lend its lists.
func TestAnswersStay(t *testing.T) {
	for count := 1; count <= 2; count++ {
		objects := full()[2-count:]
		im := mustLink(t, "image", objects)
		symbols, _, _ := link.Map(objects)
		keptImage, keptSymbols := copied(im), slices.Clone(symbols)
		objects[0].Targets = append(objects[0].Targets, "b", "a")
		names, _, _ := link.Lacks(objects)
		wipe(objects)
		if !sameImage(im, keptImage) || !slices.Equal(symbols, keptSymbols) || !slices.Equal(names, []string{"a", "b"}) {
			t.Errorf("%v, %v, %q", im, symbols, names)
		}
	}
}

// R3: no name in an answer is a piece of an argument's name.
func TestNamesHoldNoArgument(t *testing.T) {
	whole := []byte("labelentrylack")
	s := unsafe.String(&whole[0], len(whole))
	objects := []api.Object{{Labels: []api.Label{open(s[:5])}, Entries: []api.Entry{{Name: s[5:10], Label: s[:5]}}}}
	im := mustLink(t, "names", objects)
	symbols, _, _ := link.Map(objects)
	objects[0].Targets = []string{s[10:]}
	names, _, _ := link.Lacks(objects)
	clear(whole)
	if im.Names[0].Name != "entry" || symbols[0].Name != "label" || names[0] != "lack" {
		t.Errorf("%q, %q, %q", im.Names[0].Name, symbols[0].Name, names[0])
	}
}

// R4: calls that go on side by side do not see one another, and a call does not see those ahead of it.
func TestSideBySide(t *testing.T) {
	shared := full()
	want := mustLink(t, "shared", shared)
	var all sync.WaitGroup
	for n := range 8 {
		all.Go(func() {
			d := &dice{words: scattered(9973), next: n * 1000}
			for range 100 {
				objects := someObjects(d, 20)
				im, at, err := link.Link(objects)
				link.Map(shared)
				if same, _, _ := link.Link(shared); !sameImage(same, want) {
					t.Errorf("the shared objects: %v", same)
				}
				if other, otherAt, otherErr := linkBy(objects); !sameImage(im, other) || at != otherAt || err != otherErr {
					t.Errorf("Link(%v): %v, %d, %d", objects, im, at, err)
				}
			}
		})
	}
	all.Wait()
}

// R1: no call panics, at whatever it is given, and each does what its promise says.
func FuzzEveryCall(f *testing.F) {
	f.Add(uint32(1), uint32(30), uint32(0), uint32(0), "x", byte(1), byte(0))
	f.Add(uint32(2000), uint32(0), uint32(65536), uint32(66), "f", byte(2), byte(1))
	f.Add(uint32(77), uint32(5), uint32(1<<32-1), uint32(1<<32-1), "", byte(0), byte(7))
	f.Add(uint32(5), uint32(1), uint32(3), uint32(32768), "n1", byte(3), byte(2))
	f.Fuzz(func(t *testing.T, seed, strays, number, stack uint32, name string, in, turn byte) {
		d := &dice{words: scattered(997), next: int(seed % 997)}
		objects := someObjects(d, int(strays%100))
		checkAll(t, objects)
		o := &objects[int(turn)%len(objects)]
		switch turn / 16 % 8 {
		case 0:
			o.Zero = number
		case 1:
			o.Stack = stack
		case 2:
			o.Labels = append(o.Labels, api.Label{Name: name, In: api.Section(in), At: number, Open: true})
		case 3:
			o.Fixes = append(o.Fixes, api.Fix{In: api.Section(in), At: number, Name: name, Add: stack})
		case 4:
			o.Targets = append(o.Targets, name)
		case 5:
			o.Entries = append(o.Entries, api.Entry{Name: name, Label: "n0"})
		case 6:
			o.Code = append(o.Code, api.Instr{Op: api.Op(in), Arg: number})
		case 7:
			objects = slices.Repeat(objects, int(in)%70)
		}
		checkAll(t, objects)
	})
}

package list_test

import (
	"bytes"
	"slices"
	"sync"
	"testing"
	"unsafe"

	"playpen/api"
	"playpen/list"
)

// roomy gives an image with something in the spare room of each list.
func roomy(im api.Image) api.Image {
	im = cloned(im)
	im.Code = append(im.Code, api.Instr{Op: 77})[:len(im.Code)]
	im.Jumps = append(im.Jumps, 77)[:len(im.Jumps)]
	im.Data = append(im.Data, 77)[:len(im.Data)]
	im.Names = append(im.Names, api.Export{Name: "spare"})[:len(im.Names)]
	return im
}

// unfolded gives an image with one element more in each list, out of the spare room.
func unfolded(im api.Image) api.Image {
	im.Code, im.Jumps = im.Code[:len(im.Code)+1], im.Jumps[:len(im.Jumps)+1]
	im.Data, im.Names = im.Data[:len(im.Data)+1], im.Names[:len(im.Names)+1]
	return im
}

// R3: arguments stay as they are, the spare room of their lists too, whatever the call answers.
func TestArgumentsStay(t *testing.T) {
	beyond, falling, many, bare := full(), full(), full(), sample()
	beyond.Names[2].At = 8
	falling.Jumps = []uint32{5, 2, 1}
	many.Code, many.Jumps = nops(5000), upTo(5000)
	bare.Jumps, bare.Names, bare.Data = []uint32{}, []api.Export{}, []byte{}
	for i, start := range []api.Image{full(), sample(), beyond, falling, many, bare} {
		im := roomy(start)
		kept := cloned(unfolded(im))
		list.Object(im)
		list.Text(im)
		if !sameImage(unfolded(im), kept) {
			t.Errorf("image %d became %v", i, unfolded(im))
		}
	}
	b := []byte{3, 8, 0, 10, 255, 1, 77, 78}
	list.Dump(b[:6])
	if !bytes.Equal(b, []byte{3, 8, 0, 10, 255, 1, 77, 78}) {
		t.Errorf("the bytes became %v", b)
	}
}

// clearings write over one list of an object each, spare room too.
func clearings() []func(o api.Object) {
	return []func(o api.Object){
		func(o api.Object) { clear(o.Code[:cap(o.Code)]) },
		func(o api.Object) { clear(o.Data[:cap(o.Data)]) },
		func(o api.Object) { clear(o.Labels[:cap(o.Labels)]) },
		func(o api.Object) { clear(o.Fixes[:cap(o.Fixes)]) },
		func(o api.Object) { clear(o.Targets[:cap(o.Targets)]) },
		func(o api.Object) { clear(o.Entries[:cap(o.Entries)]) },
	}
}

// copied gives an object with lists of its own.
func copied(o api.Object) api.Object {
	o.Code, o.Data, o.Labels = slices.Clone(o.Code), slices.Clone(o.Data), slices.Clone(o.Labels)
	o.Fixes, o.Targets, o.Entries = slices.Clone(o.Fixes), slices.Clone(o.Targets), slices.Clone(o.Entries)
	return o
}

// R3: what is answered is memory of its own, spare room too, and no two lists of one answer share any.
func TestAnswersAreTheirOwn(t *testing.T) {
	for i, clearing := range clearings() {
		im := roomy(full())
		kept := cloned(unfolded(im))
		one, other := mustObject(t, "one", im), mustObject(t, "another", im)
		was := copied(one)
		want := copied(one)
		clearing(want)
		clearing(one)
		if !sameObject(one, want) {
			t.Errorf("list %d: %v", i, one)
		}
		if !sameObject(other, was) {
			t.Errorf("list %d of another answer: %v", i, other)
		}
		if !sameImage(unfolded(im), kept) {
			t.Errorf("list %d: the image became %v", i, unfolded(im))
		}
	}
}

// R3: no answer hangs on arguments that are written over later.
func TestAnswersStay(t *testing.T) {
	im := full()
	o := mustObject(t, "full", im)
	text, _ := list.Text(im)
	b := []byte{3, 8, 0, 10, 255, 1}
	dump, _ := list.Dump(b)
	clear(im.Code)
	clear(im.Jumps)
	clear(im.Data)
	clear(im.Names)
	clear(b)
	if want := mustObject(t, "full again", full()); !sameObject(o, want) {
		t.Errorf("the object became %v", o)
	}
	if want, _ := list.Text(full()); text != want {
		t.Errorf("the text became %q", text)
	}
	if want, _ := dumpBy([]byte{3, 8, 0, 10, 255, 1}); dump != want {
		t.Errorf("the dump became %q", dump)
	}
}

// R3: no name in an answer is a piece of an argument's name.
func TestNamesHoldNoArgument(t *testing.T) {
	whole := []byte("entryat0")
	im := api.Image{Stack: 64, Names: []api.Export{{Name: unsafe.String(&whole[0], len(whole))}}}
	o := mustObject(t, "names", im)
	text, _ := list.Text(im)
	clear(whole)
	if o.Entries[0].Name != "entryat0" || text != "code\nat0:\nstack 64\nentry \"entryat0\", at0\n" {
		t.Errorf("%q, %q", o.Entries[0].Name, text)
	}
}

// Nothing in a list: nil and a list without elements are one thing.
func TestEmptyLists(t *testing.T) {
	none := api.Image{Stack: 64}
	empty := api.Image{Stack: 64, Code: []api.Instr{}, Jumps: []uint32{}, Data: []byte{}, Names: []api.Export{}}
	if x, y := mustObject(t, "nil", none), mustObject(t, "empty", empty); !sameObject(x, y) {
		t.Errorf("%v, %v", x, y)
	}
	checkImage(t, empty)
}

// R4: calls that go on side by side do not see one another, and a call does not see those ahead of it.
func TestSideBySide(t *testing.T) {
	shared := full()
	want, _ := list.Text(full())
	var all sync.WaitGroup
	for n := range 8 {
		all.Go(func() {
			d := &dice{words: scattered(9973), next: n * 1000}
			for range 100 {
				im := someImage(d, 20)
				o, err := list.Object(im)
				if other, otherErr := objectBy(im); !sameObject(o, other) || err != otherErr {
					t.Errorf("Object(%v): %v, %d", im, o, err)
				}
				if text, _ := list.Text(shared); text != want {
					t.Errorf("the shared image: %q", text)
				}
				dump, _ := list.Dump(shared.Data)
				if other, _ := dumpBy(shared.Data); dump != other {
					t.Errorf("the shared bytes: %q", dump)
				}
			}
		})
	}
	all.Wait()
}

// R1: no call panics, at whatever it is given, and each does what its promise says.
func FuzzEveryCall(f *testing.F) {
	f.Add(uint32(1), uint32(0), uint32(0), uint32(0), []byte{3, 8, 0, 10, 255, 1}, "x", byte(1), byte(0))
	f.Add(uint32(2000), uint32(9), uint32(65536), uint32(66), []byte{}, "", byte(60), byte(3))
	f.Add(uint32(77), uint32(5), uint32(1<<32-1), uint32(1<<32-1), []byte{8, 0, 0, 0}, "at0", byte(0), byte(7))
	f.Add(uint32(5), uint32(1), uint32(3), uint32(32768), []byte{12, 15, 1, 1, 1, 1, 1, 1, 1, 1}, "\xff", byte(6), byte(2))
	f.Fuzz(func(t *testing.T, seed, strays, number, stack uint32, b []byte, name string, op, turn byte) {
		in := api.Instr{Op: api.Op(op), Arg: number}
		want, wantErr := lineBy(in)
		tryLine(t, in, want, wantErr)
		checkDump(t, b)
		im := someImage(&dice{words: scattered(997), next: int(seed % 997)}, int64(strays%100))
		checkImage(t, im)
		switch turn % 7 {
		case 0:
			im.Zero = number
		case 1:
			im.Stack = stack
		case 2:
			im.Data = b
		case 3:
			im.Jumps = append(im.Jumps, number)
		case 4:
			im.Names = append(im.Names, api.Export{Name: name, At: number})
		case 5:
			im.Code = append(im.Code, in)
		case 6:
			im.Names = []api.Export{{Name: name, At: stack % 20}}
		}
		checkImage(t, im)
	})
}

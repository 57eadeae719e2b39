package verify_test

import (
	"bytes"
	"slices"
	"sync"
	"testing"

	"playpen/api"
	"playpen/verify"
)

// roomy gives the same image with something in the spare room of each list.
func roomy(im api.Image) api.Image {
	im = cloned(im)
	im.Code = append(im.Code, in(77, 77), in(78, 78))[:len(im.Code)]
	im.Jumps = append(im.Jumps, 77, 78)[:len(im.Jumps)]
	im.Data = append(im.Data, 77, 78)[:len(im.Data)]
	im.Names = append(im.Names, api.Export{Name: "s", At: 77}, api.Export{Name: "t", At: 78})[:len(im.Names)]
	return im
}

// unfolded gives the same image with two elements more in each list, out of the spare room.
func unfolded(im api.Image) api.Image {
	im.Code, im.Jumps = im.Code[:len(im.Code)+2], im.Jumps[:len(im.Jumps)+2]
	im.Data, im.Names = im.Data[:len(im.Data)+2], im.Names[:len(im.Names)+2]
	return im
}

// spoil writes over all of a list, its spare room too.
func spoil[E any](list []E, with E) {
	list = list[:cap(list)]
	for i := range list {
		list[i] = with
	}
}

// spoilImage writes over all lists of an image.
func spoilImage(im api.Image) {
	spoil(im.Code, in(77, 77))
	spoil(im.Jumps, 77)
	spoil(im.Data, 77)
	spoil(im.Names, api.Export{Name: "spoilt", At: 77})
}

// everyCall makes all calls of a Module.
func everyCall(m *verify.Module) {
	m.Image()
	m.Bits()
	m.Procs()
	m.Digest()
	m.Entry("main")
	for i := range uint32(m.Count() + 2) {
		m.At(i)
		m.ProcOf(i)
		m.Begins(i)
		m.Depth(i)
		m.Back(i)
		m.Legal(i, i/2)
	}
}

// several gives images that are well formed, of many kinds.
func several(t *testing.T, next int) []api.Image {
	t.Helper()
	list := []api.Image{sample(t), full(t), strong(t), from(t, "enter 4, break")}
	d := &dice{words: scattered(9973), next: next}
	for range 60 {
		list = append(list, someImage(d, 20))
	}
	return list
}

// R3: arguments stay as they are, the spare room of their lists too, whatever the calls answer.
func TestArgumentsStay(t *testing.T) {
	list := several(t, 1)
	for _, x := range wrongs() {
		im := strong(t)
		x.spoil(&im)
		list = append(list, im)
	}
	for i, start := range list {
		im := roomy(start)
		kept := cloned(unfolded(im))
		m, _, _ := verify.Take(im)
		everyCall(m)
		if !sameImage(unfolded(im), kept) {
			t.Errorf("%d became %v", i, unfolded(im))
		}
		b := append(bytesBy(start, 0), 77, 78)
		keptBytes := slices.Clone(b)
		m, _, _ = verify.Load(b[:len(b)-2])
		everyCall(m)
		if !bytes.Equal(b, keptBytes) {
			t.Errorf("%d: the bytes became %x", i, b)
		}
	}
}

// P15.9: an image, or bytes, that were handed in may be written over: nothing of it is seen in the Module.
func TestNothingIsKept(t *testing.T) {
	for _, start := range several(t, 2) {
		k, _ := takeBy(start)
		im := roomy(start)
		m := mustTake(t, im)
		spoilImage(im)
		checkModule(t, start, m, k)
		b := bytesBy(start, 1)
		loaded, _, _ := verify.Load(b)
		spoil(b, 77)
		checkModule(t, start, loaded, k)
	}
}

// P15.9: each list of an image that was handed in, and each that a Module answered, one by one.
func TestEachListAlone(t *testing.T) {
	spoils := []func(im api.Image){
		func(im api.Image) { spoil(im.Code, in(77, 77)) },
		func(im api.Image) { spoil(im.Jumps, 77) },
		func(im api.Image) { spoil(im.Data, 77) },
		func(im api.Image) { spoil(im.Names, api.Export{Name: "spoilt", At: 77}) },
	}
	for _, start := range several(t, 3) {
		k, _ := takeBy(start)
		for i, one := range spoils {
			im := cloned(start)
			m := mustTake(t, im)
			one(im)
			checkModule(t, start, m, k)
			got := m.Image()
			one(got)
			checkModule(t, start, m, k)
			// The other lists of the same answer are as they were.
			back := cloned(got)
			switch i {
			case 0:
				back.Code = start.Code
			case 1:
				back.Jumps = start.Jumps
			case 2:
				back.Data = start.Data
			case 3:
				back.Names = start.Names
			}
			if !sameImage(back, start) {
				t.Fatalf("%v: list %d has a part in another one: %v", start, i, got)
			}
		}
	}
}

// P15.9, R3: what is answered is new memory at each call.
func TestAnswersAreTheirOwn(t *testing.T) {
	for _, start := range several(t, 4) {
		k, _ := takeBy(start)
		m := mustTake(t, cloned(start))
		first, second := m.Image(), m.Image()
		spoilImage(first)
		if !sameImage(second, start) {
			t.Fatalf("%v became %v", start, second)
		}
		one, other := m.Procs(), m.Procs()
		spoil(one, api.Proc{Begin: 77})
		if !slices.Equal(other, k.procs) {
			t.Fatalf("%v became %v", k.procs, other)
		}
		checkModule(t, start, m, k)
		again := mustTake(t, second)
		spoilImage(second)
		checkModule(t, start, again, k)
		checkModule(t, start, m, k)
	}
}

// Nothing in a list: nil and a list without elements are one thing.
func TestEmptyLists(t *testing.T) {
	code := lines(t, "enter 4, const 1, jump, break")
	k, _ := takeBy(api.Image{Code: code, Stack: 64})
	for _, jumps := range [][]uint32{nil, {}} {
		for _, data := range [][]byte{nil, {}} {
			for _, names := range [][]api.Export{nil, {}} {
				im := api.Image{Code: code, Jumps: jumps, Data: data, Names: names, Stack: 64}
				checkModule(t, im, mustTake(t, im), k)
				for _, none := range [][]api.Instr{nil, {}} {
					im.Code = none
					wantFault(t, "no code", im, 0, api.ErrFirst)
				}
			}
		}
	}
	wantRefused(t, "no bytes", []byte{}, 0, api.ErrHeader)
}

// R4: what one call tells does not hang on others, of other modules too.
func TestCallsAgain(t *testing.T) {
	list := several(t, 5)
	var modules []*verify.Module
	for _, im := range list {
		modules = append(modules, mustTake(t, im))
	}
	for range 3 {
		for i, im := range list {
			k, _ := takeBy(im)
			everyCall(modules[(i+1)%len(list)])
			checkModule(t, im, modules[i], k)
		}
	}
}

// R4: calls that go on side by side do not see one another; a Module may be asked by several at a time.
func TestSideBySide(t *testing.T) {
	im := full(t)
	shared := mustTake(t, im)
	want := shared.Digest()
	var all sync.WaitGroup
	for n := range 8 {
		all.Go(func() {
			d := &dice{words: scattered(9973), next: n * 1000}
			for range 40 {
				mine := someImage(d, 20)
				k, _ := takeBy(mine)
				m, _, err := verify.Take(mine)
				if err != api.OK || !slices.Equal(m.Procs(), k.procs) || m.Digest() != digestBy(mine) {
					t.Errorf("%v: %d", mine, err)
				}
				if at, is := shared.Entry("A"); at != 11 || !is || shared.Digest() != want || !sameImage(shared.Image(), im) || !shared.Back(10) {
					t.Error("the shared Module became another one")
				}
			}
		})
	}
	all.Wait()
}

// R1: no call panics, at whatever it is given, and each does what its promise says.
func FuzzEveryCall(f *testing.F) {
	f.Add(uint16(1), byte(0), byte(1), uint32(0), uint32(4), "main", []byte{0, 1, 2, 3, 4, 5, 6, 7})
	f.Add(uint16(500), byte(1), byte(3), uint32(6), uint32(1), "", bytesBy(sample(f), 0))
	f.Add(uint16(77), byte(2), byte(6), uint32(16384), uint32(1<<32-1), "\xff", bytesBy(full(f), 3))
	f.Add(uint16(900), byte(9), byte(60), uint32(2), uint32(1<<31), "a", []byte{})
	f.Fuzz(func(t *testing.T, seed uint16, strays byte, op byte, at uint32, arg uint32, name string, b []byte) {
		d := &dice{words: scattered(997), next: int(seed) % 997}
		im := someImage(d, 20)
		for range strays % 5 {
			layStray(d, &im)
		}
		check(t, im)
		if len(im.Code) > 0 {
			check(t, with(im, int(at%uint32(len(im.Code))), in(api.Op(op), arg)))
		}
		im.Jumps = append(im.Jumps, at)
		check(t, im)
		im.Names = append(im.Names, api.Export{Name: name, At: arg})
		check(t, im)
		checkLoad(t, b)
		if len(b) >= 64 && len(b) <= api.MaxFile {
			checkLoad(t, sealed(b))
		}
	})
}

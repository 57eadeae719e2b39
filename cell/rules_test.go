package cell_test

import (
	"slices"
	"sync"
	"testing"

	"playpen/api"
	"playpen/cell"
)

// R3: threaded code stays as it is, its spare room too, whether it is refused or not.
func TestThreadedStays(t *testing.T) {
	for round := range uint64(300) {
		d := newDice(round + 120000)
		m := d.someModule(t, 15)
		x := d.stray(d.someCover(t, m.Image()), m.Count())
		x.Cells = slices.Grow(x.Cells, 5)
		x.Begins = slices.Grow(x.Begins, 5)
		cells, begins := x.Cells[:cap(x.Cells)], x.Begins[:cap(x.Begins)]
		keptCells, keptBegins := slices.Clone(cells), slices.Clone(begins)
		cell.Check(m, x)
		cell.Check(nil, x)
		for index := range uint32(m.Count() + 2) {
			cell.Where(x, index)
		}
		if !slices.Equal(cells, keptCells) || !slices.Equal(begins, keptBegins) {
			t.Fatalf("%v became others", x)
		}
	}
}

// R3: spare room of a list is no part of it.
func TestSpareRoom(t *testing.T) {
	x := exampleCells()
	x.Cells = x.Cells[:5]
	wantTold(t, "fewer cells", example(t), x, 5, api.ErrCover)
	wantWhere(t, x, 10, 4, 1)
	wantNowhere(t, x, 11)
	x = exampleCells()
	x.Begins = x.Begins[:13]
	wantTold(t, "fewer begins", example(t), x, 8, api.ErrCellMap)
}

// R3: a module stays as it is, and what was answered may be written over: no other answer, and no module, has a part in it.
func TestAnswersAreTheirOwn(t *testing.T) {
	for round := range uint64(300) {
		m := newDice(round+130000).someModule(t, 20)
		kept, digest := m.Image(), m.Digest()
		leads, _ := cell.Leaders(m)
		x, _ := cell.Translate(m)
		others, _ := cell.Leaders(m)
		y, _ := cell.Translate(m)
		wantLeads, wantX := slices.Clone(others), cloned(y)
		spoil(leads, 77)
		spoil(x.Cells, made(77, 77, 77, 77, 77, 77, 77))
		if !slices.Equal(x.Begins, wantX.Begins) {
			t.Fatal("a list has a part in the other one of its answer")
		}
		spoil(x.Begins, 77)
		if !slices.Equal(others, wantLeads) || !sameThreaded(y, wantX) {
			t.Fatal("an answer has a part in another one")
		}
		if !sameImage(m.Image(), kept) || m.Digest() != digest {
			t.Fatalf("%v became %v", kept, m.Image())
		}
		checkLeaders(t, m)
		checkTranslate(t, m)
	}
}

// R4: what one call tells does not hang on others.
func TestCallsAgain(t *testing.T) {
	for range 3 {
		wantLeaders(t, "again", example(t), 0, 11, 12)
		wantTold(t, "again", example(t), exampleCells(), 0, api.OK)
		wantTold(t, "nothing", example(t), api.Threaded{}, 0, api.ErrCover)
		wantCells(t, "another", module(t, "enter 4, nop, nop, break"), alone(0, api.OpEnter, 4, no), made(1, 2, api.FuseNone, 0, 0, 0, no), alone(3, api.OpBreak, 0, no))
		wantWhere(t, exampleCells(), 3, 1, 2)
		wantNowhere(t, exampleCells(), 14)
		if _, err := cell.Translate(nil); err != api.ErrNil {
			t.Errorf("%d", err)
		}
	}
}

// R4: calls that go on side by side do not see one another, of one module and one threaded code too.
func TestSideBySide(t *testing.T) {
	m := newDice(140000).someModule(t, 30)
	leads, want := checkLeaders(t, m), checkTranslate(t, m)
	var all sync.WaitGroup
	for n := range uint64(8) {
		all.Go(func() {
			d := newDice(140001 + n)
			for range 40 {
				if got, err := cell.Leaders(m); !slices.Equal(got, leads) || err != api.OK {
					t.Errorf("the shared module: %v, %d", got, err)
				}
				if got, err := cell.Translate(m); !sameThreaded(got, want) || err != api.OK {
					t.Errorf("the shared module: %v, %d", got, err)
				}
				if place, err := cell.Check(m, want); place != 0 || err != api.OK {
					t.Errorf("the shared threaded code: %d, %d", place, err)
				}
				index := uint32(d.upTo(m.Count() - 1))
				number, ahead, err := cell.Where(want, index)
				if wantNumber, wantAhead, wantErr := whereBy(want, index); number != wantNumber || ahead != wantAhead || err != wantErr {
					t.Errorf("the shared threaded code: %d, %d, %d", number, ahead, err)
				}
			}
		})
	}
	all.Wait()
}

// threadedOf makes threaded code of bytes: small numbers, or such near the greatest one.
func threadedOf(raw []byte) api.Threaded {
	number := func(b byte) uint32 { return uint32(int8(b)) }
	var x api.Threaded
	for seven := range slices.Chunk(raw[:min(len(raw)/7*7, 210)], 7) {
		x.Cells = append(x.Cells, made(number(seven[0]), number(seven[1]), api.FuseKind(seven[2]), api.Op(seven[3]), number(seven[4]), number(seven[5]), number(seven[6])))
	}
	for _, b := range raw[len(x.Cells)*7:] {
		x.Begins = append(x.Begins, number(b))
	}
	return x
}

// R1: no call panics, at whatever it is given, and each does what its promise says.
func FuzzEveryCall(f *testing.F) {
	f.Add(uint64(1), uint32(0), []byte{})
	f.Add(uint64(2), uint32(3), []byte{0, 1, 1, 3, 4, 0, 255, 1, 1, 1, 2, 0, 0, 255, 0, 1})
	f.Add(uint64(3), uint32(1<<32-1), []byte{255, 255, 1, 1, 0, 0, 0, 254, 9, 200, 200, 1, 1, 1})
	f.Add(uint64(4), uint32(1<<31), []byte{0, 0, 0, 0, 0, 0, 0, 0, 128, 15, 0, 0, 0, 255, 255, 255})
	f.Fuzz(func(t *testing.T, seed uint64, index uint32, raw []byte) {
		d := newDice(seed)
		m := d.someModule(t, 8)
		x := threadedOf(raw)
		checkCheck(t, m, x)
		checkWhere(t, x, index)
		if place, err := cell.Check(nil, x); place != 0 || err != api.ErrNil {
			t.Fatalf("no module: %d, %d", place, err)
		}
		least := module(t, "enter 4, break")
		checkCheck(t, least, x)
		checkLeaders(t, m)
		y := checkTranslate(t, m)
		wantTold(t, "what Translate answers", m, y, 0, api.OK)
		z := d.someCover(t, m.Image())
		wantTold(t, "a cover", m, z, 0, api.OK)
		for range 4 {
			z = d.stray(z, m.Count())
			checkCheck(t, m, z)
			checkWhere(t, z, index%64)
		}
	})
}

package gate_test

import (
	"slices"
	"testing"

	"playpen/api"
	"playpen/gate"
)

// numberBy tells the number of a word by whole numbers.
func numberBy(word uint32) (uint32, bool) {
	signed := int64(word)
	if signed >= 1<<31 {
		signed -= 1 << 32
	}
	if signed >= 0 {
		return 0, false
	}
	return uint32(-1 - signed), true
}

// P16.2: the edges, one by one.
func TestNumberEdges(t *testing.T) {
	for _, x := range []struct {
		word, number uint32
		is           bool
	}{
		{0, 0, false}, {1, 0, false}, {5, 0, false}, {1<<31 - 1, 0, false},
		{1 << 31, 1<<31 - 1, true}, {1<<31 + 1, 1<<31 - 2, true}, {0xFFFFFFFE, 1, true}, {0xFFFFFFFF, 0, true},
	} {
		if number, is := gate.Number(x.word); number != x.number || is != x.is {
			t.Errorf("Number(%#x): %d, %t", x.word, number, is)
		}
	}
}

// P16.2: of every word's kind: each bit, its neighbours, and many scattered ones.
func TestNumber(t *testing.T) {
	words := scattered(100000)
	for bit := range 32 {
		for near := range uint32(5) {
			words = append(words, 1<<bit+near-2, ^(1<<bit + near - 2))
		}
	}
	for _, word := range words {
		want, below := numberBy(word)
		if number, is := gate.Number(word); number != want || is != below {
			t.Fatalf("Number(%#x): %d, %t", word, number, is)
		}
	}
}

// P16.2, P16.1: what a word asks for may be granted, and what may be granted a word asks for.
func TestNumbersAreGranted(t *testing.T) {
	for _, word := range scattered(2000) {
		number, is := gate.Number(word)
		if !is {
			continue
		}
		if args, granted := mustNew(t, grant(number, 4)).Granted(number); args != 4 || !granted {
			t.Fatalf("%#x: %d, %t", word, args, granted)
		}
	}
}

// starts gives addresses near the ends of a segment and of the words' range.
func starts(size int) []uint32 {
	var list []uint32
	for near := range uint32(70) {
		list = append(list, near, uint32(size)-near, uint32(size)+near, 0xFFFFFFFF-near, 1<<31-near, 1<<31+near)
	}
	return list
}

// P16.4: at all ends, with 0 to 15 words, in segments of every size; no byte but the words' is touched.
func TestWords(t *testing.T) {
	var list []api.Grant
	for args := range 16 {
		list = append(list, grant(uint32(100+args), args))
	}
	g := mustNew(t, list...)
	for _, k := range []int{8, 9, 16} {
		data := filled(1 << k)
		for i, sp := range starts(1 << k) {
			if k == 16 && i%7 != 0 {
				continue
			}
			for _, number := range []uint32{100, 101, 102, 115} {
				checkWords(t, g, data, sp, number)
			}
		}
		for args := range 16 {
			checkWords(t, g, data, 12, uint32(100+args))
			checkWords(t, g, data, 0xFFFFFFF1, uint32(100+args))
		}
	}
}

// P16.4: places that are no multiple of 4, from all over.
func TestWordsAnywhere(t *testing.T) {
	g := mustNew(t, grant(5, 3), grant(6, 15))
	data := filled(512)
	for _, sp := range scattered(2000) {
		checkWords(t, g, data, sp, 5)
		checkWords(t, g, data, sp, 6)
	}
}

// P16.4: a number that is not granted tells and touches nothing.
func TestWordsNotGranted(t *testing.T) {
	g := mustNew(t, grant(5, 3))
	for _, number := range []uint32{0, 1, 4, 6, 1<<31 - 1, 1 << 31, 1<<31 + 5, 1<<32 - 1, 0xFFFFFFFA} {
		checkWords(t, g, filled(256), 12, number)
		checkWords(t, mustNew(t), filled(256), 12, number)
	}
	left := mustLess(t, g, 5)
	checkWords(t, left, filled(256), 12, 5)
	if words, is := left.Words(memory(t, filled(256)), 12, 5); len(words) != 0 || is {
		t.Errorf("what Less took: %v, %t", words, is)
	}
}

// P16.4: a memory that is nil, or that mem did not make, tells nothing, of no words either.
func TestWordsOfNoMemory(t *testing.T) {
	g := mustNew(t, grant(0, 0), grant(7, 2))
	for what, m := range unmadeMemories(t) {
		for _, number := range []uint32{0, 1, 7} {
			if words, is := g.Words(m, 12, number); len(words) != 0 || is {
				t.Errorf("%s: Words(%d): %v, %t", what, number, words, is)
			}
		}
	}
}

// P16.5: the event of every number of words, whatever the place and the value are.
func TestEvent(t *testing.T) {
	var list []api.Grant
	for args := range 16 {
		list = append(list, grant(uint32(1<<31-1-args), args))
	}
	g := mustNew(t, list...)
	for args := range 16 {
		number := uint32(1<<31 - 1 - args)
		for _, at := range []uint32{0, 3, 16383, 16384, 1<<32 - 1} {
			words := scattered(args)
			r := reply(at^0x12345678, write(1, 2), write(1<<32-1, filled(256)...))
			want := api.Event{At: at, Number: number, Args: scattered(args), Value: at ^ 0x12345678}
			if got, err := g.Event(at, number, words, r); err != api.OK || !sameEvent(got, want) {
				t.Fatalf("Event(%d, %d, %v): %v, %d", at, number, words, got, err)
			}
		}
	}
	for _, none := range [][]uint32{nil, {}} {
		if got, err := g.Event(1, 1<<31-1, none, api.Reply{}); err != api.OK || !sameEvent(got, api.Event{At: 1, Number: 1<<31 - 1}) {
			t.Errorf("of no words: %v, %d", got, err)
		}
	}
}

// P16.5: a call at fault in several ways answers the first of ErrNil, ErrNumber, ErrShape, ErrReply, and nothing else.
func TestEventErrors(t *testing.T) {
	g := mustNew(t, grant(0, 0), grant(7, 2), grant(8, 15))
	shapes := []struct {
		number uint32
		count  int
		err    api.Errno
	}{
		{0, 0, api.OK}, {7, 2, api.OK}, {8, 15, api.OK},
		{0, 1, api.ErrShape}, {7, 0, api.ErrShape}, {7, 1, api.ErrShape}, {7, 3, api.ErrShape}, {8, 14, api.ErrShape}, {8, 16, api.ErrShape}, {7, 1000, api.ErrShape},
		{1, 0, api.ErrNumber}, {1, 2, api.ErrNumber}, {1 << 31, 0, api.ErrNumber}, {1<<31 + 7, 2, api.ErrNumber}, {1<<32 - 1, 0, api.ErrNumber}, {1<<32 - 8, 2, api.ErrNumber},
	}
	replies := []struct {
		r   api.Reply
		err api.Errno
	}{{api.Reply{}, api.OK}, {reply(5, write(0, 1)), api.OK}, {tooMany(), api.ErrReply}, {tooLong(), api.ErrReply}}
	for _, x := range shapes {
		for _, y := range replies {
			want := x.err
			if want == api.OK {
				want = y.err
			}
			got, err := g.Event(3, x.number, make([]uint32, x.count), y.r)
			if err != want || err != api.OK && !sameEvent(got, api.Event{}) {
				t.Errorf("Event(3, %d, %d words, %d writes): %v, %d, want %d", x.number, x.count, len(y.r.Writes), got, err, want)
			}
			for what, none := range unmade(t) {
				if got, err := none.Event(3, x.number, make([]uint32, x.count), y.r); err != api.ErrNil || !sameEvent(got, api.Event{}) {
					t.Errorf("%s: %v, %d", what, got, err)
				}
			}
		}
	}
}

// P16.4, P16.5: the words of a call make its event.
func TestWordsMakeTheEvent(t *testing.T) {
	d := newDice(2)
	for range 300 {
		list := d.someGrants(64)
		g := mustNew(t, list...)
		m := memory(t, d.someData())
		for _, x := range list {
			words, is := g.Words(m, d.word(), x.Number)
			got, err := g.Event(4, x.Number, words, reply(d.word()))
			if !is || err != api.OK || len(words) != x.Args || !slices.Equal(got.Args, words) {
				t.Fatalf("%v: %v, %t; %v, %d", x, words, is, got, err)
			}
		}
	}
}

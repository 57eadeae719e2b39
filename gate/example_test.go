package gate_test

import (
	"slices"
	"testing"

	"playpen/api"
	"playpen/gate"
	"playpen/mem"
)

// sample gives the gate and the memory of the chapter's examples.
func sample(t testing.TB) (*gate.Gate, *mem.Memory) {
	t.Helper()
	m, err := mem.New(8)
	if err != api.OK {
		t.Fatal(err)
	}
	m.Store4(16, 1)
	m.Store4(20, 2)
	m.Store4(24, 3)
	return mustNew(t, grant(7, 2), grant(0, 0)), m
}

// P16.3: the first example.
func TestExample1(t *testing.T) {
	g, _ := sample(t)
	if got := g.Grants(); !slices.Equal(got, []api.Grant{{Number: 0, Args: 0}, {Number: 7, Args: 2}}) {
		t.Errorf("Grants: %v", got)
	}
	if args, is := g.Granted(7); args != 2 || !is {
		t.Errorf("Granted(7): %d, %t", args, is)
	}
	if args, is := g.Granted(1); args != 0 || is {
		t.Errorf("Granted(1): %d, %t", args, is)
	}
}

// P16.4: the second example; the words at 252 and 0 are made to be no noughts too.
func TestExample2(t *testing.T) {
	g, m := sample(t)
	for range 2 {
		for _, x := range []struct {
			sp, number uint32
			words      []uint32
			is         bool
		}{
			{12, 7, []uint32{1, 2}, true}, {12, 0, nil, true}, {12, 1, nil, false},
			{4294967288, 7, []uint32{m.Load4(252), m.Load4(0)}, true},
		} {
			if got, is := g.Words(m, x.sp, x.number); !slices.Equal(got, x.words) || is != x.is {
				t.Errorf("Words(m, %d, %d): %v, %t", x.sp, x.number, got, is)
			}
		}
		m.Store4(252, 0x11223344)
		m.Store4(0, 0x55667788)
	}
}

// P16.2: the third example.
func TestExample3(t *testing.T) {
	if number, is := gate.Number(0xFFFFFFF8); number != 7 || !is {
		t.Errorf("%d, %t", number, is)
	}
	if number, is := gate.Number(5); number != 0 || is {
		t.Errorf("%d, %t", number, is)
	}
}

// P16.5: the fourth example.
func TestExample4(t *testing.T) {
	g, _ := sample(t)
	got, err := g.Event(3, 7, []uint32{1, 2}, api.Reply{Value: 9})
	if err != api.OK || !sameEvent(got, api.Event{At: 3, Number: 7, Args: []uint32{1, 2}, Value: 9}) {
		t.Errorf("%v, %d", got, err)
	}
	got, err = g.Event(3, 7, []uint32{1}, api.Reply{Value: 9})
	if err != api.ErrShape || !sameEvent(got, api.Event{}) {
		t.Errorf("with one word: %v, %d", got, err)
	}
}

// P16.6: the fifth example.
func TestExample5(t *testing.T) {
	g, m := sample(t)
	if err := g.Apply(m, reply(0, write(254, 1, 2, 3, 4), write(255, 9))); err != api.OK {
		t.Fatal(err)
	}
	for at, want := range map[uint32]uint32{254: 1, 255: 9, 0: 3, 1: 4, 2: 0, 253: 0, 16: 1} {
		if got := m.Load1(at); got != want {
			t.Errorf("the byte at %d: %d", at, got)
		}
	}
}

// P16.1: the sixth example.
func TestExample6(t *testing.T) {
	refused(t, grant(7, 2), grant(7, 2))
	refused(t, grant(2147483648, 0))
	refused(t, grant(1, 16))
}

// P16.7: the seventh example.
func TestExample7(t *testing.T) {
	g, _ := sample(t)
	left := mustLess(t, g, 7, 3)
	if got := left.Grants(); !slices.Equal(got, []api.Grant{{Number: 0, Args: 0}}) {
		t.Errorf("Grants: %v", got)
	}
	if !left.Within(g) || g.Within(left) {
		t.Errorf("Within: %t, the other way round: %t", left.Within(g), g.Within(left))
	}
}

package step_test

import (
	"bytes"
	"slices"
	"testing"

	"playpen/api"
)

// sized gives a module with an operation in it and a data segment of 2^k bytes.
func sized(t testing.TB, op api.Op, arg uint32, k int) (made, uint32) {
	t.Helper()
	m, at := around(t, op, arg)
	im := m.Image()
	im.Zero = 1<<k - im.Stack
	return mustTake(t, im), at
}

// ends gives addresses near the beginning, the segment's end, the ends of the words' range.
func ends(k int) []uint32 {
	var all []uint32
	for near := range uint32(6) {
		all = append(all, near, 1<<k-near, 1<<k+near, 5<<k-near, 0xFFFFFFFF-near, 0x80000000-near, 0x80000000+near)
	}
	return all
}

// P18.4: loads, those that go round the end too: the lowest byte first, without sign.
func TestLoads(t *testing.T) {
	for _, k := range []int{8, 9, 16} {
		for op, count := range map[api.Op]int{api.OpLoad1: 1, api.OpLoad2: 2, api.OpLoad4: 4} {
			m, at := sized(t, op, 0, k)
			for _, a := range ends(k) {
				s := filledState(stands(t, m, at, uint32(1<<k-68), 9, a))
				x := uint32(0)
				for i := count - 1; i >= 0; i-- {
					x = x*256 + uint32(s.Data[(uint64(a)+uint64(i))%(1<<32)%(1<<k)])
				}
				want := clonedState(s)
				want.PC, want.Ops = at+1, list(9, x)
				if got := took(t, m, s); !sameState(got, want) {
					t.Errorf("k %d: load%d at %#x: %x, want %x", k, count, a, got.Ops, want.Ops)
				}
			}
		}
	}
}

// P18.4, P18.8: stores likewise: b, on top, at a.
func TestStores(t *testing.T) {
	for _, k := range []int{8, 9, 16} {
		for op, count := range map[api.Op]int{api.OpStore1: 1, api.OpStore2: 2, api.OpStore4: 4} {
			m, at := sized(t, op, 0, k)
			for _, a := range ends(k) {
				s := filledState(stands(t, m, at, uint32(1<<k-68), 9, a, 0x81929394))
				want := clonedState(s)
				want.PC, want.Ops = at+1, list(9)
				for i, x := range []byte{0x94, 0x93, 0x92, 0x81}[:count] {
					want.Data[(uint64(a)+uint64(i))%(1<<32)%(1<<k)] = x
				}
				if got := took(t, m, s); !sameState(got, want) {
					t.Errorf("k %d: store%d at %#x", k, count, a)
				}
			}
		}
	}
}

// P18.4: three stores by hand, over the segment's end.
func TestStoreByHand(t *testing.T) {
	m, at := around(t, api.OpStore4, 0)
	got := took(t, m, stands(t, m, at, 188, 254, 0x11223344))
	if got.Data[254] != 0x44 || got.Data[255] != 0x33 || got.Data[0] != 0x22 || got.Data[1] != 0x11 || got.Data[2] != 0 || got.Data[253] != 0 {
		t.Errorf("%v", got.Data)
	}
	m, at = around(t, api.OpLoad4, 0)
	s := stands(t, m, at, 188, 0xFFFFFFFE)
	copy(s.Data[254:], []byte{0x44, 0x33})
	copy(s.Data, []byte{0x22, 0x11})
	if got := took(t, m, s); !slices.Equal(got.Ops, list(0x11223344)) {
		t.Errorf("%x", got.Ops)
	}
	m, at = around(t, api.OpLoad2, 0)
	s.PC, s.Ops = at, list(0x1FF)
	if got := took(t, m, s); !slices.Equal(got.Ops, list(0x2233)) {
		t.Errorf("%x", got.Ops)
	}
}

// P18.4, P18.8: copies from b, on top, to a: all is read ahead of all that is written; both may go round the end, and lie over one another.
func TestCopies(t *testing.T) {
	for _, k := range []int{8, 9, 16} {
		for _, n := range list(0, 1, 2, 7, 64, 255, 256) {
			m, at := sized(t, api.OpCopy, n, k)
			for _, x := range []struct{ to, from uint32 }{
				{0, 100}, {100, 0}, {0, 0}, {2, 0}, {0, 2}, {1<<k - 3, 10}, {10, 1<<k - 3}, {1<<k - 1, 1<<k - 2}, {0xFFFFFFFE, 0xFFFFFFFD}, {0xFFFFFFFF, 3 << k}, {0x80000005, 0x7FFFFFFF}, {128, 0},
			} {
				s := filledState(stands(t, m, at, uint32(1<<k-68), 9, x.to, x.from))
				want := clonedState(s)
				want.PC, want.Ops = at+1, list(9)
				for i := range uint64(n) {
					want.Data[(uint64(x.to)+i)%(1<<32)%(1<<k)] = s.Data[(uint64(x.from)+i)%(1<<32)%(1<<k)]
				}
				if got := took(t, m, s); !sameState(got, want) {
					t.Errorf("k %d: copy %d from %#x to %#x", k, n, x.from, x.to)
				}
			}
		}
	}
}

// P18.4: a copy by hand: what was read ahead counts.
func TestCopyByHand(t *testing.T) {
	m, at := around(t, api.OpCopy, 4)
	s := stands(t, m, at, 188, 2, 0)
	copy(s.Data, []byte{0, 1, 2, 3, 4, 5, 6, 7})
	if got := took(t, m, s); !bytes.Equal(got.Data[:8], []byte{0, 1, 0, 1, 2, 3, 6, 7}) {
		t.Errorf("%v", got.Data[:8])
	}
	s.Ops = list(254, 0)
	if got := took(t, m, s); !bytes.Equal(got.Data[:8], []byte{2, 3, 2, 3, 4, 5, 6, 7}) || !bytes.Equal(got.Data[254:], []byte{0, 1}) {
		t.Errorf("%v, %v", got.Data[:8], got.Data[254:])
	}
}

// P18.4, P18.8: arguments lie from SP + 4 on; of the greatest SP the last one ends at the segment's end.
func TestArgs(t *testing.T) {
	for n := range uint32(15) {
		m, at := around(t, api.OpArg, n)
		for _, sp := range list(128, 132, 188, 192) {
			s := filledState(stands(t, m, at, sp, 9, 0xA1B2C3D4))
			want := clonedState(s)
			want.PC, want.Ops = at+1, list(9)
			put(want.Data, sp+4+4*n, 0xA1B2C3D4)
			if got := took(t, m, s); !sameState(got, want) {
				t.Errorf("arg %d at %d: %v", n, sp, got.Data[sp:])
			}
		}
	}
	m, at := around(t, api.OpArg, 14)
	if got := took(t, m, stands(t, m, at, 192, 0x01020304)); !bytes.Equal(got.Data[252:], []byte{4, 3, 2, 1}) || got.Data[0] != 0 {
		t.Errorf("%v", got.Data)
	}
}

// P18.1, P18.4: k from the least to the greatest; the image's data are the first bytes, noughts the rest.
func TestSizes(t *testing.T) {
	for k := 8; k <= 16; k++ {
		data := filled(1<<k - 128)
		m := mustTake(t, api.Image{Code: lines(t, "enter 4, const 0, load4, leave 4"), Data: data, Stack: 128})
		s := fresh(t, m)
		want := append(bytes.Clone(data), make([]byte, 128)...)
		if !sameState(s, api.State{SP: uint32(1<<k - 64), Data: want}) {
			t.Fatalf("k %d: %d bytes, SP %d", k, len(s.Data), s.SP)
		}
		s = tookMany(t, m, begun(t, m, 0), 4)
		if s.Life != api.LifeDone || s.Value != word(data, 0) || s.SP != uint32(1<<k-64) {
			t.Errorf("k %d: Life %d, Value %x", k, s.Life, s.Value)
		}
	}
}

package host_test

import (
	"testing"

	"playpen/api"
	"playpen/host"
)

// seedIs wants a seed.
func seedIs(t testing.TB, h *host.Host, want uint64) {
	t.Helper()
	if got := h.State().Seed; got != want {
		t.Errorf("the seed: %#x, want %#x", got, want)
	}
}

// P17.4, seed: a word, whatever the seed was; of 0: 1.
func TestSeed(t *testing.T) {
	data := make([]byte, 256)
	for _, x := range []struct {
		word uint32
		seed uint64
	}{{0, 1}, {1, 1}, {2, 2}, {7, 7}, {1 << 31, 1 << 31}, {none, none}} {
		h := host.New(1<<64 - 1)
		tells(t, h, data, 0, api.CallSeed, x.word)
		seedIs(t, h, x.seed)
		tells(t, h, data, 0, api.CallSeed, x.word)
		seedIs(t, h, x.seed)
	}
}

// P17.4, random: the seed goes on as the chapter says; worked out by hand from 1.
func TestRandomByHand(t *testing.T) {
	data := make([]byte, 256)
	h := host.New(1)
	// 1 becomes 2001, 2041, 40822041 (hexadecimal).
	tells(t, h, data, 0, api.CallRandom, 0)
	seedIs(t, h, 0x40822041)
	// From there on by products and quotients instead of shifts.
	x := uint64(0x40822041)
	x ^= x * 8192
	x ^= x / 128
	x ^= x * 131072
	tells(t, h, data, uint32(x/4294967296), api.CallRandom, 0)
	seedIs(t, h, x)
	if x>>32 == 0 {
		t.Error("the upper half should have something in it by now")
	}
}

// P17.4, P17.10, random: of 0 the upper half, of 1 always 0, of any other word below that.
func TestRandom(t *testing.T) {
	data := make([]byte, 256)
	for _, seed := range []uint64{1, 7, 1 << 31, 1 << 32, 1 << 63, 1<<64 - 1, 0x123456789ABCDEF} {
		h := host.New(seed)
		want := seed
		for i := range 300 {
			below := []uint32{0, 1, 2, 3, 6, 10, 1 << 16, 1 << 31, 1<<31 + 1, none - 1, none}[i%11]
			want = nextBy(want)
			value := want / (1 << 32)
			if below != 0 {
				value %= uint64(below)
			}
			tells(t, h, data, uint32(value), api.CallRandom, below)
			seedIs(t, h, want)
			if below != 0 && value >= uint64(below) || below == 1 && value != 0 {
				t.Errorf("random below %d: %d", below, value)
			}
		}
	}
}

// P17.4: the seed that random goes on from is the one that was set last.
func TestSeedAndRandom(t *testing.T) {
	data := make([]byte, 256)
	h := host.New(99)
	var first []uint32
	for round := range 3 {
		tells(t, h, data, 0, api.CallSeed, 12345)
		for i := range 20 {
			value := ask(t, h, data, api.CallRandom, 0).Value
			if round == 0 {
				first = append(first, value)
			}
			if value != first[i] {
				t.Fatalf("round %d, number %d: %d, want %d", round, i, value, first[i])
			}
		}
	}
	tells(t, h, data, 0, api.CallSeed, 0)
	tells(t, h, data, 0, api.CallRandom, 0)
	seedIs(t, h, 0x40822041)
}

// P17.4, P17.5, clock: it goes on by ticks, and over the greatest word to 0.
func TestClock(t *testing.T) {
	data := make([]byte, 256)
	h := host.New(7)
	clock := uint32(0)
	for _, ticks := range []uint32{0, 1, 5, none, 1 << 31, 1 << 31, 0, none, none, 1000} {
		tells(t, h, data, clock, api.CallClock)
		if err := h.Tick(ticks); err != api.OK {
			t.Fatal(err)
		}
		clock += ticks
		if got := h.State().Clock; got != clock {
			t.Errorf("the clock: %d, want %d", got, clock)
		}
		tells(t, h, data, clock, api.CallClock)
		tells(t, h, data, clock, api.CallClock)
	}
	h = mustLoad(t, api.HostState{Seed: 1, Clock: none})
	tells(t, h, data, none, api.CallClock)
	h.Tick(1)
	tells(t, h, data, 0, api.CallClock)
	h.Tick(none)
	tells(t, h, data, none, api.CallClock)
	h.Tick(3)
	tells(t, h, data, 2, api.CallClock)
}

// P17.4, sqrt.
func TestSqrt(t *testing.T) {
	data := make([]byte, 256)
	h := host.New(7)
	for a, want := range map[uint32]uint32{
		0: 0, 1 << 31: 1 << 31, f(1): f(1), f(4): f(2), f(2): 0x3FB504F3, f(0.25): f(0.5), 1: 0x1A3504F3, 0x7F7FFFFF: 0x5F7FFFFF,
		0x7F800000: 0x7F800000, 0xFF800000: api.NaN, f(-1): api.NaN, 0x80000001: api.NaN, api.NaN: api.NaN, 0xFFC00001: api.NaN, 0x7F800001: api.NaN,
	} {
		tells(t, h, data, want, api.CallSqrt, a)
	}
}

// P17.4, floor.
func TestFloor(t *testing.T) {
	data := make([]byte, 256)
	h := host.New(7)
	for a, want := range map[uint32]uint32{
		0: 0, 1 << 31: 1 << 31, 0x7F800000: 0x7F800000, 0xFF800000: 0xFF800000,
		api.NaN: api.NaN, 0xFFC00001: api.NaN, 0x7F800001: api.NaN, 0xFF800001: api.NaN, none: api.NaN, 1<<31 - 1: api.NaN,
		1: 0, 0x80000001: f(-1), 0x007FFFFF: 0, 0x807FFFFF: f(-1), 0x00800000: 0, 0x80800000: f(-1),
		f(0.5): 0, f(-0.5): f(-1), 0x3F7FFFFF: 0, 0xBF7FFFFF: f(-1), f(1): f(1), f(-1): f(-1), 0x3F800001: f(1), 0xBF800001: f(-2),
		f(2.5): f(2), f(-2.5): f(-3), f(2.75): f(2), f(-2.75): f(-3), f(-2): f(-2), f(1000.25): f(1000), f(-1000.25): f(-1001),
		f(8388607.5): f(8388607), f(-8388607.5): f(-8388608), f(8388608): f(8388608), f(-8388609): f(-8388609), 0x4B800001: 0x4B800001, 0xCB800001: 0xCB800001,
		f(1 << 31): f(1 << 31), f(-1 << 31): f(-1 << 31), f(1e20): f(1e20), f(-1e20): f(-1e20), 0x7F7FFFFF: 0x7F7FFFFF, 0xFF7FFFFF: 0xFF7FFFFF,
	} {
		tells(t, h, data, want, api.CallFloor, a)
	}
}

// P17.4, abs.
func TestAbs(t *testing.T) {
	data := make([]byte, 256)
	h := host.New(7)
	for a, want := range map[uint32]uint32{
		0: 0, 1 << 31: 0, 0x7F800000: 0x7F800000, 0xFF800000: 0x7F800000,
		api.NaN: api.NaN, 0xFFC00001: api.NaN, 0xFFC00000: api.NaN, 0x7F800001: api.NaN, 0xFF800001: api.NaN, none: api.NaN, 1<<31 - 1: api.NaN,
		1: 1, 0x80000001: 1, f(-1): f(1), f(1): f(1), f(-0.1): f(0.1), 0x80800000: 0x00800000, 0x807FFFFF: 0x007FFFFF, 0xFF7FFFFF: 0x7F7FFFFF, 0x7F7FFFFF: 0x7F7FFFFF,
	} {
		tells(t, h, data, want, api.CallAbs, a)
	}
}

// P17.4: words from all over, every exponent with both signs and fractions at both ends; the host stays as it is.
func TestNumbersScattered(t *testing.T) {
	data := make([]byte, 256)
	s := api.HostState{Console: []byte("so"), Vars: vars(2), Seed: 77, Clock: 5}
	h, b := mustLoad(t, s), bookOf(s)
	d := newDice(2)
	for high := range uint32(512) {
		for _, low := range []uint32{0, 1, 1 << 22, 1<<23 - 1, d.word() % (1 << 23)} {
			for _, number := range []uint32{api.CallSqrt, api.CallFloor, api.CallAbs} {
				check(t, h, b, data, number, high<<23+low)
			}
		}
	}
}

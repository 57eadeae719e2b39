package host_test

import (
	"testing"

	"playpen/api"
	"playpen/host"
)

// sample gives the host and the data of the chapter's examples.
func sample() (*host.Host, []byte) {
	data := make([]byte, 256)
	copy(data, "hi\n")
	copy(data[8:], "41")
	copy(data[16:], "x")
	copy(data[32:], bytesBy(f(3), f(4), f(0), f(2)))
	return host.New(7), data
}

// P17.4: the first example.
func TestExample1(t *testing.T) {
	h, data := sample()
	tells(t, h, data, 3, api.CallPrint, 0)
	consoleIs(t, h, "hi\n")
	tells(t, h, data, 3, api.CallPut, 0x20AC)
	consoleIs(t, h, "hi\n\u20ac")
	tells(t, h, data, 1, api.CallPut, 0xD800)
	consoleIs(t, h, "hi\n\u20ac?")
	tells(t, h, data, 2, api.CallInt, 0xFFFFFFFF)
	consoleIs(t, h, "hi\n\u20ac?-1")
}

// P17.4: the second example.
func TestExample2(t *testing.T) {
	h, data := sample()
	writes(t, h, data, 100, []byte{0x29, 0, 0, 0}, api.CallParse, 8, 100)
	tells(t, h, data, 0, api.CallParse, 0, 100)
}

// P17.4, P17.5: the third example.
func TestExample3(t *testing.T) {
	h, data := sample()
	tells(t, h, data, 1, api.CallSet, 16, 5)
	writes(t, h, data, 60, []byte{5, 0, 0, 0}, api.CallGet, 16, 60)
	tells(t, h, data, 0, api.CallGet, 0, 60)
	if x, err := h.Get("x"); x != 5 || err != api.OK {
		t.Errorf("Get: %d, %d", x, err)
	}
}

// P17.4: the fourth example.
func TestExample4(t *testing.T) {
	h, data := sample()
	lays(t, h, data, 64, []uint32{f(-8), f(6)}, api.CallMul, 64, 32, 40)
	tells(t, h, data, 0, api.CallDiv, 64, 32, 48)
	tells(t, h, data, 0x40A00000, api.CallFar, 32)
	lays(t, h, data, 64, []uint32{f(2), 0x80000000}, api.CallTurn, 64, 40, 0xFFFFFFFF)
}

// P17.4: the fifth example.
func TestExample5(t *testing.T) {
	h, data := sample()
	tells(t, h, data, 0xBF800000, api.CallFloor, 0xBF000000)
	tells(t, h, data, 0x7FC00000, api.CallAbs, 0xFFC00001)
}

// P17.4: the sixth example.
func TestExample6(t *testing.T) {
	_, data := sample()
	h := full(t, 4095)
	before := h.Console()
	tells(t, h, data, none, api.CallPrint, 0)
	consoleIs(t, h, before)
}

// P17.4: the seventh example.
func TestExample7(t *testing.T) {
	h, data := sample()
	for _, x := range []struct {
		data []byte
		ask  api.Event
		err  api.Errno
	}{
		{data, api.Event{Number: 15, Args: []uint32{0}}, api.ErrLibrary},
		{data, api.Event{Number: api.CallPrint, Args: []uint32{0, 0}}, api.ErrCallArgs},
		{data[:100], api.Event{Number: api.CallPrint, Args: []uint32{0}}, api.ErrLength},
	} {
		if r, err := h.Answer(x.data, x.ask); err != x.err || !sameReply(r, api.Reply{}) {
			t.Errorf("%v: %v, %d, want %d", x.ask, r, err, x.err)
		}
	}
}

package host_test

import (
	"bytes"
	"strings"
	"testing"

	"playpen/api"
	"playpen/host"
)

// P17.4, length and runes.
func TestLengthAndRunes(t *testing.T) {
	for _, x := range []struct {
		text   string
		things uint32
	}{
		{"", 0}, {"a", 1}, {"hi\n", 3}, {"\u00e9", 1}, {"\u20ac\U0001F600", 2}, {"\xff", 1}, {"\xc3", 1}, {"\xed\xa0\x80", 3}, {"\uFFFD", 1}, {"a\xe2\x82A", 4},
		{"\x07\x7f\u009f", 3}, {strings.Repeat("\u20ac", 85), 85}, {strings.Repeat("\u20ac", 86), 86}, {strings.Repeat("\xff", 256), 256},
	} {
		h := host.New(7)
		length := uint32(min(256, len(x.text)))
		tells(t, h, text(x.text), length, api.CallLength, 100)
		tells(t, h, text(x.text), x.things, api.CallRunes, 100)
		if !sameState(h.State(), host.New(7).State()) {
			t.Errorf("%q: the host became another one", x.text)
		}
	}
}

// P17.4, parse: texts that are read and that are not.
func TestParse(t *testing.T) {
	for said, word := range map[string]uint32{
		"0": 0, "41": 41, "-1": none, "-0": 0, "4294967295": none, "-2147483648": 1 << 31, "0xff": 255, "0xFFFFFFFF": none, "0b101": 5, "007": 7, "0x0": 0, strings.Repeat("0", 63) + "9": 9,
	} {
		h := host.New(7)
		writes(t, h, text(said), 300, bytesBy(word), api.CallParse, 100, 300)
		if !sameState(h.State(), host.New(7).State()) {
			t.Errorf("%q: the host became another one", said)
		}
	}
	for _, said := range []string{"", "-", "0x", "0b", "0b2", "4294967296", "-2147483649", "0x100000000", "12a", " 1", "1 ", "1\n", "+1", "1.5", "nan", "hi", "--1", strings.Repeat("0", 64) + "9", strings.Repeat("1", 256), "1\xff"} {
		tells(t, host.New(7), text(said), 0, api.CallParse, 100, 300)
	}
}

// P17.4, parsef: texts that are read and that are not.
func TestParseF(t *testing.T) {
	for said, word := range map[string]uint32{
		"0": 0, "-0": 1 << 31, "41": f(41), "1.5": f(1.5), "-1.5e3": f(-1500), "1E+2": f(100), "0x1.8p-1": f(0.75), "inf": 0x7F800000, "-inf": 0xFF800000, "nan": api.NaN,
		"1e-50": 0, "-1e-50": 1 << 31, "16777217": f(16777216), "3.4028235e38": 0x7F7FFFFF, "1e-45": 1, "1.00000017881393432617187499": 0x3F800001, strings.Repeat("0", 63) + "2": f(2),
	} {
		h := host.New(7)
		writes(t, h, text(said), 300, bytesBy(word), api.CallParseF, 100, 300)
		if !sameState(h.State(), host.New(7).State()) {
			t.Errorf("%q: the host became another one", said)
		}
	}
	for _, said := range []string{"", "-", "1.", ".5", "1e", "0x1.8", "1e39", "-1e39", "-nan", "+1", "inf ", "Inf", "hi", " 1", "1\n", "0b1", strings.Repeat("0", 64) + "2", strings.Repeat("1", 256)} {
		tells(t, host.New(7), text(said), 0, api.CallParseF, 100, 300)
	}
}

// P17.4: a write begins at the call's own word, wherever that lies; laid down it goes round the segment's end.
func TestWritesGoRound(t *testing.T) {
	data := with(256, 8, []byte("305419896\x00")) // 12345678 in hexadecimal
	copy(data[32:], "1.5")
	h := host.New(7)
	h.Set("1.5", 0xA1B2C3D4)
	for _, at := range []uint32{0, 100, 252, 253, 254, 255, 256, 511, 1 << 31, none, none - 1, none - 2} {
		for _, x := range []struct{ number, at, word uint32 }{{api.CallParse, 8, 0x12345678}, {api.CallParseF, 32, f(1.5)}, {api.CallGet, 32, 0xA1B2C3D4}} {
			writes(t, h, data, at, bytesBy(x.word), x.number, x.at, at)
			want := bytes.Clone(data)
			for i, b := range bytesBy(x.word) {
				want[(int(at%256)+i)%256] = b
			}
			if got := applied(t, data, ask(t, h, data, x.number, x.at, at)); !bytes.Equal(got, want) {
				t.Errorf("%s at %#x: %v", host.Word(x.number), at, got)
			}
		}
	}
}

// P17.4, get and set: names of all lengths, and what is no name.
func TestGetAndSet(t *testing.T) {
	for _, name := range []string{"x", "\x01", "\xff", "hi\n", "\u00e9", "0", " ", strings.Repeat("n", 31), strings.Repeat("n", 32), strings.Repeat("\u00e9", 16)} {
		h := host.New(7)
		tells(t, h, text(name), 0, api.CallGet, 100, 60)
		tells(t, h, text(name), 1, api.CallSet, 100, 5)
		writes(t, h, text(name), 60, bytesBy(5), api.CallGet, 100, 60)
		tells(t, h, text(name), 1, api.CallSet, 100, 0xFFEEDDCC)
		writes(t, h, text(name), 60, bytesBy(0xFFEEDDCC), api.CallGet, 100, 60)
		tells(t, h, text(name), 1, api.CallSet, 100, 0)
		writes(t, h, text(name), none, bytesBy(0), api.CallGet, 100, none)
		if got := h.State().Vars; len(got) != 1 || got[0] != (api.Var{Name: name}) {
			t.Errorf("%q: %v", name, got)
		}
		if got, err := h.Get(name); got != 0 || err != api.OK {
			t.Errorf("Get(%q): %d, %d", name, got, err)
		}
	}
	for _, name := range []string{"", strings.Repeat("n", 33), strings.Repeat("\u00e9", 17), strings.Repeat("n", 255), strings.Repeat("n", 256), strings.Repeat("n", 300)} {
		h := crowded(t, 3)
		h.Set(strings.Repeat("n", 32), 5)
		before := h.State()
		tells(t, h, text(name), 0, api.CallSet, 100, 5)
		tells(t, h, text(name), 0, api.CallGet, 100, 60)
		if !sameState(h.State(), before) {
			t.Errorf("%d bytes: the host became another one", len(name))
		}
	}
}

// P17.4: a text ends at its nought, so the name does.
func TestNameEndsAtItsNought(t *testing.T) {
	h := host.New(7)
	tells(t, h, text("ab\x00cd"), 1, api.CallSet, 100, 5)
	writes(t, h, text("ab"), 60, bytesBy(5), api.CallGet, 100, 60)
	writes(t, h, text("ab\x00zz"), 60, bytesBy(5), api.CallGet, 100, 60)
	tells(t, h, text("abc"), 0, api.CallGet, 100, 60)
	tells(t, h, text("a"), 0, api.CallGet, 100, 60)
	tells(t, h, text("AB"), 0, api.CallGet, 100, 60)
}

// P17.4: with 31 variables there is room for one more, with 32 for none; one that is there is set all the same.
func TestSetWhenFull(t *testing.T) {
	h := crowded(t, 31)
	tells(t, h, text("w"), 1, api.CallSet, 100, 5)
	before := h.State()
	tells(t, h, text("z"), 0, api.CallSet, 100, 5)
	tells(t, h, text("z"), 0, api.CallGet, 100, 60)
	if !sameState(h.State(), before) || len(before.Vars) != 32 {
		t.Errorf("%v", h.State().Vars)
	}
	for i, v := range before.Vars {
		tells(t, h, text(v.Name), 1, api.CallSet, 100, uint32(i)+1000)
	}
	for i, v := range before.Vars {
		writes(t, h, text(v.Name), 60, bytesBy(uint32(i)+1000), api.CallGet, 100, 60)
	}
	if got := h.State().Vars; len(got) != 32 {
		t.Errorf("%v", got)
	}
}

// P17.4, P17.5, P17.10: the library and Get and Set have the same variables.
func TestSetAndSet(t *testing.T) {
	h := host.New(7)
	if err := h.Set("x", 3); err != api.OK {
		t.Fatal(err)
	}
	writes(t, h, text("x"), 60, bytesBy(3), api.CallGet, 100, 60)
	tells(t, h, text("x"), 1, api.CallSet, 100, 4)
	if got, err := h.Get("x"); got != 4 || err != api.OK {
		t.Errorf("Get: %d, %d", got, err)
	}
	h.Set("x", 5)
	writes(t, h, text("x"), 60, bytesBy(5), api.CallGet, 100, 60)
	// A set that was refused changes nothing.
	h.Set("", 6)
	tells(t, h, text(""), 0, api.CallSet, 100, 6)
	writes(t, h, text("x"), 60, bytesBy(5), api.CallGet, 100, 60)
}

package host_test

import (
	"strings"
	"testing"

	"playpen/api"
	"playpen/host"
)

// P17.4, print: what may be shown is put there as it is, all else as question marks.
func TestPrint(t *testing.T) {
	for _, x := range []struct{ text, want string }{
		{"", ""}, {"hi\n", "hi\n"}, {"a\tb\rc", "a?b?c"}, {"\x01\x07\x1f ~\x7f", "??? ~?"},
		{"\u0080\u009f\u00a0\u00e9", "??\u00a0\u00e9"}, {"\u20ac\uFFFD\U0001F600\U0010FFFF", "\u20ac\uFFFD\U0001F600\U0010FFFF"},
		{"\xff\xc3", "??"}, {"\xc3(\xa9", "?(?"}, {"\xed\xa0\x80", "???"}, {"\xf4\x90\x80\x80", "????"}, {"\xc0\x80", "??"},
		{"\"\\n\"", "\"\\n\""},
	} {
		h := host.New(7)
		tells(t, h, text(x.text), uint32(len(x.want)), api.CallPrint, 100)
		consoleIs(t, h, x.want)
		// Once more: it is put behind what is there.
		tells(t, h, text(x.text), uint32(len(x.want)), api.CallPrint, 100)
		consoleIs(t, h, x.want+x.want)
	}
}

// P17.4: a text without a nought among its 256 bytes is all of these, and no more.
func TestLongTexts(t *testing.T) {
	for _, size := range []int{512, 1024, 65536} {
		for _, count := range []int{0, 1, 254, 255, 256, 257, 300, 511} {
			data := with(size, 0, []byte(strings.Repeat("a", count)))
			told := uint32(min(count, 256))
			h := host.New(7)
			tells(t, h, data, told, api.CallPrint, 0)
			consoleIs(t, h, strings.Repeat("a", min(count, 256)))
			tells(t, h, data, told, api.CallLength, 0)
			tells(t, h, data, told, api.CallRunes, 0)
		}
	}
	// The 256 bytes end in the midst of a rune, whose bytes are lost.
	h := host.New(7)
	data := with(512, 0, []byte(strings.Repeat("a", 254)+"\u20ac"))
	tells(t, h, data, 256, api.CallPrint, 0)
	consoleIs(t, h, strings.Repeat("a", 254)+"??")
	tells(t, h, data, 256, api.CallRunes, 0)
	data = with(512, 0, []byte(strings.Repeat("a", 253)+"\u20ac!"))
	tells(t, h, data, 256, api.CallLength, 0)
	tells(t, h, data, 254, api.CallRunes, 0)
}

// P17.4: a text goes round the segment's end and the words' end, each address masked by itself.
func TestTextsGoRound(t *testing.T) {
	const said = "h\u00e9! 12"
	for _, size := range []int{256, 512, 65536} {
		for _, at := range []uint32{0, uint32(size) - 1, uint32(size) - 2, uint32(size) - 7, uint32(size) - 8, uint32(size), uint32(size) + 5, none, none - 3, 1 << 31, 1<<31 - 2} {
			data := with(size, at, []byte(said))
			h := host.New(7)
			tells(t, h, data, uint32(len(said)), api.CallPrint, at)
			consoleIs(t, h, said)
			tells(t, h, data, uint32(len(said)), api.CallLength, at)
			tells(t, h, data, uint32(len(said))-1, api.CallRunes, at)
			writes(t, h, data, 3, bytesBy(12), api.CallParse, at+5, 3)
			writes(t, h, data, 3, bytesBy(f(12)), api.CallParseF, at+5, 3)
			tells(t, h, data, 1, api.CallSet, at, 9)
			writes(t, h, data, 3, bytesBy(9), api.CallGet, at, 3)
		}
	}
	// A segment without a nought: its 256 bytes, from the address on.
	data := make([]byte, 256)
	for i := range data {
		data[i] = byte('a' + i%26)
	}
	for _, at := range []uint32{0, 1, 200, 255, 256, none} {
		h := host.New(7)
		tells(t, h, data, 256, api.CallPrint, at)
		consoleIs(t, h, string(data[at%256:])+string(data[:at%256]))
		tells(t, h, data, 256, api.CallLength, at)
	}
}

// P17.4, put: each edge of what is a rune that may be shown.
func TestPut(t *testing.T) {
	data := make([]byte, 256)
	for _, x := range []struct {
		word uint32
		want string
	}{
		{0, "?"}, {7, "?"}, {9, "?"}, {10, "\n"}, {11, "?"}, {13, "?"}, {31, "?"}, {32, " "}, {'a', "a"}, {0x7E, "~"}, {0x7F, "?"}, {0x80, "?"}, {0x9F, "?"},
		{0xA0, "\u00a0"}, {0xE9, "\u00e9"}, {0x7FF, "\u07ff"}, {0x800, "\u0800"}, {0x20AC, "\u20ac"}, {0xD7FF, "\ud7ff"}, {0xD800, "?"}, {0xDBFF, "?"}, {0xDFFF, "?"}, {0xE000, "\ue000"},
		{0xFFFD, "\uFFFD"}, {0xFFFF, "\uFFFF"}, {0x10000, "\U00010000"}, {0x10FFFF, "\U0010FFFF"}, {0x110000, "?"}, {0x11000A, "?"},
		{1<<31 - 1, "?"}, {1 << 31, "?"}, {1<<31 + 'a', "?"}, {1<<31 + 10, "?"}, {none, "?"}, {none - 9, "?"},
	} {
		h := host.New(7)
		tells(t, h, data, uint32(len(x.want)), api.CallPut, x.word)
		consoleIs(t, h, x.want)
	}
	h := host.New(7)
	b := bookOf(h.State())
	for word := uint32(0); word < 0x120000; word += 1 + word/500 {
		check(t, h, b, data, api.CallPut, word)
		check(t, h, b, data, api.CallPut, word|1<<31)
		if len(b.console) > 200 {
			check(t, h, b, data, api.CallClear)
		}
	}
}

// P17.4, int, hex and float.
func TestPutNumbers(t *testing.T) {
	data := make([]byte, 256)
	for _, x := range []struct {
		number, word uint32
		want         string
	}{
		{api.CallInt, 0, "0"}, {api.CallInt, 41, "41"}, {api.CallInt, none, "-1"}, {api.CallInt, 1<<31 - 1, "2147483647"}, {api.CallInt, 1 << 31, "-2147483648"},
		{api.CallHex, 0, "0x00000000"}, {api.CallHex, 0xBEEF, "0x0000beef"}, {api.CallHex, none, "0xffffffff"}, {api.CallHex, 1 << 31, "0x80000000"},
		{api.CallFloat, 0, "0.0"}, {api.CallFloat, 1 << 31, "-0.0"}, {api.CallFloat, f(0.1), "0.1"}, {api.CallFloat, f(-1.5), "-1.5"}, {api.CallFloat, f(16777216), "16777216.0"},
		{api.CallFloat, f(1e20), "1.0e20"}, {api.CallFloat, 1, "1.0e-45"}, {api.CallFloat, 0x7F7FFFFF, "3.4028235e38"}, {api.CallFloat, 0x7F800000, "inf"}, {api.CallFloat, 0xFF800000, "-inf"},
		{api.CallFloat, api.NaN, "nan"}, {api.CallFloat, 0xFFFFFFFF, "nan"}, {api.CallFloat, 0x7F800001, "nan"},
	} {
		h := host.New(7)
		tells(t, h, data, uint32(len(x.want)), x.number, x.word)
		consoleIs(t, h, x.want)
	}
}

// P17.4, P17.9: what just fits goes on the console; what is one byte too long does not, not even in part, and changes nothing.
func TestFull(t *testing.T) {
	data := text("h\u00e9\n\x07")
	for _, x := range []struct {
		number, word uint32
		shown        string
	}{
		{api.CallPrint, 100, "h\u00e9\n?"}, {api.CallPrint, 103, "\n?"}, {api.CallPrint, 104, "?"}, {api.CallPrint, 105, ""},
		{api.CallPut, 'a', "a"}, {api.CallPut, 10, "\n"}, {api.CallPut, 0xE9, "\u00e9"}, {api.CallPut, 0x20AC, "\u20ac"}, {api.CallPut, 0x1F600, "\U0001F600"}, {api.CallPut, 7, "?"}, {api.CallPut, none, "?"},
		{api.CallInt, 7, "7"}, {api.CallInt, none, "-1"}, {api.CallInt, 1 << 31, "-2147483648"},
		{api.CallHex, 255, "0x000000ff"},
		{api.CallFloat, f(0.5), "0.5"}, {api.CallFloat, 0x7F7FFFFF, "3.4028235e38"},
	} {
		for _, had := range []int{4096, 4095, 4094, 4097 - len(x.shown), 4096 - len(x.shown), 4095 - len(x.shown), 0} {
			if had > 4096 {
				continue
			}
			h := full(t, had)
			before := h.State()
			if had+len(x.shown) > 4096 {
				tells(t, h, data, none, x.number, x.word)
				if !sameState(h.State(), before) {
					t.Errorf("%s %d behind %d bytes changed something", host.Word(x.number), x.word, had)
				}
				continue
			}
			tells(t, h, data, uint32(len(x.shown)), x.number, x.word)
			consoleIs(t, h, strings.Repeat(".", had)+x.shown)
		}
	}
	// A text of 256 bytes behind 3840 and 3841.
	long := with(512, 0, []byte(strings.Repeat("a", 256)))
	tells(t, full(t, 3840), long, 256, api.CallPrint, 0)
	tells(t, full(t, 3841), long, none, api.CallPrint, 0)
}

// P17.4: a console that is full byte by byte; clear makes room again.
func TestFillAndClear(t *testing.T) {
	data := make([]byte, 256)
	h := host.New(7)
	for range 4096 {
		tells(t, h, data, 1, api.CallPut, 'a')
	}
	tells(t, h, data, none, api.CallPut, 'a')
	consoleIs(t, h, strings.Repeat("a", 4096))
	tells(t, h, data, 0, api.CallPrint, 0)
	tells(t, h, data, 4096, api.CallClear)
	consoleIs(t, h, "")
	tells(t, h, data, 0, api.CallClear)
	tells(t, h, data, 1, api.CallPut, 'b')
	consoleIs(t, h, "b")
	tells(t, h, data, 1, api.CallClear)
	tells(t, host.New(7), data, 0, api.CallClear)
	for _, had := range []int{1, 4095, 4096} {
		h := full(t, had)
		tells(t, h, data, uint32(had), api.CallClear)
		consoleIs(t, h, "")
		tells(t, h, data, 0, api.CallClear)
	}
}

// P17.4: clear takes the console alone.
func TestClearLeavesTheRest(t *testing.T) {
	s := api.HostState{Console: []byte("abc"), Vars: vars(32), Seed: 5, Clock: 6}
	h := mustLoad(t, s)
	tells(t, h, make([]byte, 256), 3, api.CallClear)
	s.Console = nil
	if !sameState(h.State(), s) {
		t.Errorf("%v", h.State())
	}
}

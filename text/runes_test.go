package text_test

import (
	"math"
	"slices"
	"strings"
	"testing"

	"playpen/api"
	"playpen/text"
)

func runesOf(s string) []thing {
	var things []thing
	for at, number := range text.Runes(s) {
		things = append(things, thing{at, number})
	}
	return things
}

// P1.1: the document's examples and the edges of the codes.
func TestRunesOfChosenTexts(t *testing.T) {
	for _, c := range []struct {
		s    string
		want []thing
	}{
		{"", nil},
		{"a\xc3\xa9\xff", []thing{{0, 97}, {1, 233}, {3, -256}}},
		{"\xe2\x82A", []thing{{0, -227}, {1, -131}, {2, 65}}},
		{"\x00\x7f", []thing{{0, 0}, {1, 127}}},
		{"\x80\xbf", []thing{{0, -129}, {1, -192}}},
		{"\xc1\xbf\xc2\x80", []thing{{0, -194}, {1, -192}, {2, 0x80}}},
		{"\xdf\xbf\xe0\xa0\x80", []thing{{0, 0x7FF}, {2, 0x800}}},
		{"\xe0\x9f\xbf", []thing{{0, -225}, {1, -160}, {2, -192}}},
		{"\xed\x9f\xbf\xed\xa0\x80\xee\x80\x80", []thing{{0, 0xD7FF}, {3, -238}, {4, -161}, {5, -129}, {6, 0xE000}}},
		{"\xef\xbf\xbd\xef\xbf\xef", []thing{{0, 0xFFFD}, {3, -240}, {4, -192}, {5, -240}}},
		{"\xef\xbf\xbf\xf0\x90\x80\x80", []thing{{0, 0xFFFF}, {3, 0x10000}}},
		{"\xf4\x8f\xbf\xbf\xf4\x90\x80\x80", []thing{{0, 0x10FFFF}, {4, -245}, {5, -145}, {6, -129}, {7, -129}}},
		{"\xf8\x88\x80\x80\x80", []thing{{0, -249}, {1, -137}, {2, -129}, {3, -129}, {4, -129}}},
	} {
		if got := runesOf(c.s); !slices.Equal(got, c.want) {
			t.Errorf("Runes(%q): %v, want %v", c.s, got, c.want)
		}
	}
}

// P1.1: the code of every rune is that rune; three bytes that would be one from D800 to DFFF are lost.
func TestRunesOfEveryCode(t *testing.T) {
	for r := 0; r <= 0x10FFFF; r++ {
		code := codeOf(r)
		if code == "" {
			s := string([]byte{0xE0 + byte(r>>12), 0x80 + byte(r>>6&63), 0x80 + byte(r&63)})
			want := []thing{{0, -1 - int32(s[0])}, {1, -1 - int32(s[1])}, {2, -1 - int32(s[2])}}
			if got := runesOf(s); !slices.Equal(got, want) {
				t.Fatalf("Runes(%q): %v", s, got)
			}
			continue
		}
		for at, number := range text.Runes(code) {
			if at != 0 || number != int32(r) {
				t.Fatalf("Runes(%q): %d %d", code, at, number)
			}
		}
	}
}

// P1.1: against the cutting by the document's words.
func TestRunesAreTheCutting(t *testing.T) {
	eachText(nastyParts(), 4, func(s string) {
		if got, want := runesOf(s), cutting(s); !slices.Equal(got, want) {
			t.Fatalf("Runes(%q): %v, want %v", s, got, want)
		}
	})
}

// P1.1: left early, gone through again, and one within the other.
func TestRunesAgainAndWithin(t *testing.T) {
	runes := text.Runes("a\xff\u00e9")
	for range 2 {
		for at := range runes {
			if at == 1 {
				break
			}
		}
	}
	var got []int32
	for _, outer := range runes {
		got = append(got, outer)
		for _, inner := range runes {
			if inner == 233 {
				break
			}
			got = append(got, inner)
		}
	}
	if want := []int32{97, 97, -256, -256, 97, -256, 233, 97, -256}; !slices.Equal(got, want) {
		t.Errorf("within: %v, want %v", got, want)
	}
	calls := 0
	runes(func(int, int32) bool { calls++; return false })
	if calls != 1 {
		t.Errorf("left at once: %d calls", calls)
	}
	if text.Runes("") == nil {
		t.Error("Runes of nothing is nil")
	}
}

// P1.2: chosen places, and places that there are not.
func TestWhereOfChosenPlaces(t *testing.T) {
	for _, c := range []struct {
		s            string
		at           int
		line, column int
		err          api.Errno
	}{
		{"ab\nc\u00e9!", 6, 2, 3, api.OK},
		{"ab\nc\u00e9!", 5, 2, 3, api.OK},
		{"ab\nc\u00e9!", 4, 2, 2, api.OK},
		{"ab\nc\u00e9!", 7, 2, 4, api.OK},
		{"", 0, 1, 1, api.OK},
		{"\n", 0, 1, 1, api.OK},
		{"\n", 1, 2, 1, api.OK},
		{"\n\n\n", 3, 4, 1, api.OK},
		{"a\r\nb", 2, 1, 3, api.OK},
		{"\xff\xfe\xe2\x82", 4, 1, 5, api.OK},
		{"\U0001F600", 1, 1, 2, api.OK},
		{"\U0001F600", 3, 1, 2, api.OK},
		{"\u2028\u0085", 5, 1, 3, api.OK},
		{"a", 2, 0, 0, api.ErrPlace},
		{"a", -1, 0, 0, api.ErrPlace},
		{"", 1, 0, 0, api.ErrPlace},
		{"\u00e9", 3, 0, 0, api.ErrPlace},
		{"a", math.MaxInt, 0, 0, api.ErrPlace},
		{"a", math.MinInt, 0, 0, api.ErrPlace},
	} {
		if line, column, err := text.Where(c.s, c.at); line != c.line || column != c.column || err != c.err {
			t.Errorf("Where(%q, %d): %d, %d, %d", c.s, c.at, line, column, err)
		}
	}
}

// P1.2: every place of many texts, counted by the promise's words.
func TestWhereOfEveryPlace(t *testing.T) {
	eachText(nastyParts(), 3, func(s string) {
		for at := 0; at <= len(s); at++ {
			wantLine := 1 + strings.Count(s[:at], "\n")
			begin := 1 + strings.LastIndexByte(s[:at], '\n')
			wantColumn := 1
			for _, x := range cutting(s) {
				if x.at >= begin && x.at < at {
					wantColumn++
				}
			}
			line, column, err := text.Where(s, at)
			if line != wantLine || column != wantColumn || err != api.OK {
				t.Fatalf("Where(%q, %d): %d, %d, %d, want %d, %d", s, at, line, column, err, wantLine, wantColumn)
			}
		}
	})
}

// P1.8: chosen bytes: the first nought, the edges of what is printed, lost bytes.
func TestGuestOfChosenBytes(t *testing.T) {
	for _, c := range []struct{ b, want string }{
		{"", ""},
		{"hi\x07\xff\x00A", "hi??"},
		{"\x00hidden", ""},
		{"a\x00b\x00c", "a"},
		{"no nought", "no nought"},
		{"a\nb\tc\rd", "a\nb?c?d"},
		{"\x01\x1f ~\x7f", "?? ~?"},
		{"\u0080\u009f\u00a0\u00bf", "??\u00a0\u00bf"},
		{"\u00e9\ufffd\U0010ffff\u2028", "\u00e9\ufffd\U0010ffff\u2028"},
		{"\xef\xbf", "??"},
		{"\xef\xbf\x00\xbd", "??"},
		{"\xed\xa0\x80", "???"},
		{"\"\\'", "\"\\'"},
	} {
		if got := text.Guest([]byte(c.b)); got != c.want {
			t.Errorf("Guest(%q): %q, want %q", c.b, got, c.want)
		}
	}
	if got := text.Guest(nil); got != "" {
		t.Errorf("Guest(nil): %q", got)
	}
}

// guestBy is what P1.8 says of bytes, by the cutting of the document's words.
func guestBy(s string) string {
	s, _, _ = strings.Cut(s, "\x00")
	told := ""
	for _, x := range cutting(s) {
		if x.number == 10 || x.number >= 32 && !(x.number >= 0x7F && x.number <= 0x9F) {
			told += codeOf(int(x.number))
		} else {
			told += "?"
		}
	}
	return told
}

// P1.8 and P1.12: many texts, and each rune: what is told is as the promise says, and is told the same again.
func TestGuestTwice(t *testing.T) {
	try := func(s string) {
		once := text.Guest([]byte(s))
		if want := guestBy(s); once != want {
			t.Fatalf("Guest(%q): %q, want %q", s, once, want)
		}
		if twice := text.Guest([]byte(once)); twice != once {
			t.Fatalf("Guest of Guest(%q): %q, then %q", s, once, twice)
		}
	}
	eachText(nastyParts(), 4, try)
	for r := range 0x3000 {
		try(codeOf(r) + "!")
	}
}

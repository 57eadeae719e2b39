package text_test

import (
	"strings"
	"testing"

	"playpen/api"
	"playpen/text"
)

// P1.5: chosen bytes.
func TestShowOfChosenBytes(t *testing.T) {
	for _, c := range []struct{ b, want string }{
		{"", `""`},
		{"a\"\x001\xff", `"a\"\01\xff"`},
		{"\n\t\r\x00\"\\", `"\n\t\r\0\"\\"`},
		{"'#~ !", `"'#~ !"`},
		{"\x01\x08\x0b\x1f\x7f\x80\xab\xcd\xef", `"\x01\x08\x0b\x1f\x7f\x80\xab\xcd\xef"`},
		{"\u00e9", `"\xc3\xa9"`},
	} {
		if got := text.Show([]byte(c.b)); got != c.want {
			t.Errorf("Show(%q): %s, want %s", c.b, got, c.want)
		}
	}
	if got := text.Show(nil); got != `""` {
		t.Errorf("Show(nil): %s", got)
	}
}

// P1.11: every byte, alone and behind each other one, comes back; what is shown has bytes from 32 to 126 alone.
func TestShowAndBack(t *testing.T) {
	try := func(b []byte) {
		shown := text.Show(b)
		for _, c := range []byte(shown) {
			if c < 32 || c > 126 {
				t.Fatalf("Show(%q): %q", b, shown)
			}
		}
		if back, at, err := text.Bytes(shown); string(back) != string(b) || at != 0 || err != api.OK {
			t.Fatalf("Bytes(%s): %q, %d, %d", shown, back, at, err)
		}
	}
	try(nil)
	for a := range 256 {
		try([]byte{byte(a)})
		for b := range 256 {
			try([]byte{byte(a), byte(b)})
			try([]byte{byte(a), byte(b), '4'})
		}
	}
}

type bytesCase struct {
	literal, want string
	at            int
	err           api.Errno
}

func tryBytes(t *testing.T, cases []bytesCase) {
	t.Helper()
	for _, c := range cases {
		got, at, err := text.Bytes(c.literal)
		if string(got) != c.want || at != c.at || err != c.err {
			t.Errorf("Bytes(%q): %q, %d, %d, want %q, %d, %d", c.literal, got, at, err, c.want, c.at, c.err)
		}
	}
}

// P1.6: what literals stand for.
func TestBytesTaken(t *testing.T) {
	tryBytes(t, []bytesCase{
		{`""`, "", 0, api.OK},
		{`"a b"`, "a b", 0, api.OK},
		{`"it's"`, "it's", 0, api.OK},
		{`"\n\t\r\0\\\"\'"`, "\n\t\r\x00\\\"'", 0, api.OK},
		{`"\01"`, "\x001", 0, api.OK},
		{`"\x00\x7f\xfF\xAb"`, "\x00\x7f\xff\xab", 0, api.OK},
		{`"\x414"`, "A4", 0, api.OK},
		{`"\u00e9\x41"`, "\xc3\xa9A", 0, api.OK},
		{`"\u0000\u007F\u0080"`, "\x00\x7f\xc2\x80", 0, api.OK},
		{`"\u07ff\u0800\ud7ff\ue000\uffff"`, "\xdf\xbf\xe0\xa0\x80\xed\x9f\xbf\xee\x80\x80\xef\xbf\xbf", 0, api.OK},
		{`"\u00e9a"`, "\u00e9a", 0, api.OK},
		{"\"\u0080\u00e9\ufffd\U0010ffff\"", "\u0080\u00e9\ufffd\U0010ffff", 0, api.OK},
		{"\" ~\"", " ~", 0, api.OK},
		{`"#"`, "#", 0, api.OK},
	})
}

// P1.6: what is refused, and at which place.
func TestBytesRefused(t *testing.T) {
	tryBytes(t, []bytesCase{
		{"", "", 0, api.ErrOpen},
		{"a", "", 0, api.ErrOpen},
		{`'a'`, "", 0, api.ErrOpen},
		{` "a"`, "", 0, api.ErrOpen},
		{`"`, "", 1, api.ErrOpen},
		{`"a`, "", 2, api.ErrOpen},
		{"\"\u00e9", "", 3, api.ErrOpen},
		{`"\"`, "", 3, api.ErrOpen},
		{`"a"b`, "", 3, api.ErrToken},
		{`"" `, "", 2, api.ErrToken},
		{`"""`, "", 2, api.ErrToken},
		{"\"a\"\xff", "", 3, api.ErrToken},
		{`"a\q"`, "", 2, api.ErrEscape},
		{`"\`, "", 1, api.ErrEscape},
		{`"\x`, "", 1, api.ErrEscape},
		{`"\x4`, "", 1, api.ErrEscape},
		{`"\x4"`, "", 1, api.ErrEscape},
		{`"\xg0"`, "", 1, api.ErrEscape},
		{`"\x0g"`, "", 1, api.ErrEscape},
		{`"\x+1"`, "", 1, api.ErrEscape},
		{"\"\\x\x11\x12\"", "", 1, api.ErrEscape},
		{`"\X41"`, "", 1, api.ErrEscape},
		{`"\N"`, "", 1, api.ErrEscape},
		{`"\a"`, "", 1, api.ErrEscape},
		{`"\1"`, "", 1, api.ErrEscape},
		{"\"\\\n\"", "", 1, api.ErrEscape},
		{"\"\\\xff\"", "", 1, api.ErrEscape},
		{`"\u`, "", 1, api.ErrEscape},
		{`"\u123`, "", 1, api.ErrEscape},
		{`"\u123"`, "", 1, api.ErrEscape},
		{`"\u12 4"`, "", 1, api.ErrEscape},
		{`"\U0041"`, "", 1, api.ErrEscape},
		{`"\ud800"`, "", 1, api.ErrEscape},
		{`"\uDFFF"`, "", 1, api.ErrEscape},
		{`"\ud83d\ude00"`, "", 1, api.ErrEscape},
		{"\"a\n\"", "", 2, api.ErrToken},
		{"\"\x00\"", "", 1, api.ErrToken},
		{"\"\t\"", "", 1, api.ErrToken},
		{"\"\x1f\"", "", 1, api.ErrToken},
		{"\"\x7f\"", "", 1, api.ErrToken},
		{"\"\xe9\"", "", 1, api.ErrUtf},
		{"\"\u00e9\x80\"", "", 3, api.ErrUtf},
		{"\"\xed\xa0\x80\"", "", 1, api.ErrUtf},
		{"\"\xef\xbf\"", "", 1, api.ErrUtf},
		{"\"\xff\x01", "", 1, api.ErrUtf},
		{"\"\x01\xff", "", 1, api.ErrToken},
	})
}

// P1.6: each byte behind a backslash, and each byte as a literal's only one.
func TestBytesOfEveryByte(t *testing.T) {
	short := map[byte]byte{'n': 10, 't': 9, 'r': 13, '0': 0, '\\': 92, '"': 34, '\'': 39}
	for c := range 256 {
		b := byte(c)
		literal := "\"\\" + string([]byte{b}) + "\""
		got, at, err := text.Bytes(literal)
		if want, ok := short[b]; ok {
			if string(got) != string([]byte{want}) || at != 0 || err != api.OK {
				t.Errorf("Bytes(%q): %q, %d, %d", literal, got, at, err)
			}
		} else if len(got) != 0 || at != 1 || err != api.ErrEscape {
			t.Errorf("Bytes(%q): %q, %d, %d", literal, got, at, err)
		}
		wantErr := api.OK
		switch {
		case b < 32 || b == 127:
			wantErr = api.ErrToken
		case b >= 128:
			wantErr = api.ErrUtf
		case b == '"':
			continue
		case b == '\\':
			wantErr = api.ErrOpen // it takes the mark along
		}
		if _, _, err := text.Bytes("\"" + string([]byte{b}) + "\""); err != wantErr {
			t.Errorf("the byte %d in a literal: %d, want %d", b, err, wantErr)
		}
	}
}

// P1.6 and P1.7: each pair of bytes behind \x, and each number behind \u.
func TestEveryHexadecimalEscape(t *testing.T) {
	digit := func(c byte) int { return strings.IndexByte("0123456789abcdef", strings.ToLower(string(rune(c)))[0]) }
	for a := range 128 {
		for b := range 128 {
			escape := "\\x" + string([]byte{byte(a), byte(b)})
			high, low := digit(byte(a)), digit(byte(b))
			got, at, err := text.Bytes("\"" + escape + "\"")
			number, place, err2 := text.Rune("'" + escape + "'")
			if high < 0 || low < 0 {
				if len(got) != 0 || at != 1 || err != api.ErrEscape || number != 0 || place != 1 || err2 != api.ErrEscape {
					t.Fatalf("%q is taken", escape)
				}
			} else if string(got) != string([]byte{byte(high*16 + low)}) || at != 0 || err != api.OK || number != int32(high*16+low) || place != 0 || err2 != api.OK {
				t.Fatalf("%q: %q, %d", escape, got, number)
			}
		}
	}
	for r := range 0x10000 {
		escape := "\\u"
		for shift := 12; shift >= 0; shift -= 4 {
			escape += string("0123456789abcdefABCDEF"[r>>shift&15])
		}
		got, _, err := text.Bytes("\"" + escape + "\"")
		number, _, err2 := text.Rune("'" + escape + "'")
		want, wantErr := int32(r), api.OK
		if codeOf(r) == "" {
			want, wantErr = 0, api.ErrEscape
		}
		if string(got) != codeOf(r) || number != want || err != wantErr || err2 != wantErr {
			t.Fatalf("%s: %q, %d, %d, %d", escape, got, number, err, err2)
		}
	}
}

type runeCase struct {
	literal string
	want    int32
	at      int
	err     api.Errno
}

func tryRune(t *testing.T, cases []runeCase) {
	t.Helper()
	for _, c := range cases {
		got, at, err := text.Rune(c.literal)
		if got != c.want || at != c.at || err != c.err {
			t.Errorf("Rune(%q): %d, %d, %d, want %d, %d, %d", c.literal, got, at, err, c.want, c.at, c.err)
		}
	}
}

// P1.7: what literals stand for.
func TestRuneTaken(t *testing.T) {
	tryRune(t, []runeCase{
		{`'a'`, 97, 0, api.OK},
		{`' '`, 32, 0, api.OK},
		{"'\u00e9'", 233, 0, api.OK},
		{"'\u0080'", 0x80, 0, api.OK},
		{"'\ufffd'", 0xFFFD, 0, api.OK},
		{"'\U0010ffff'", 0x10FFFF, 0, api.OK},
		{`'"'`, 34, 0, api.OK},
		{`'\n'`, 10, 0, api.OK},
		{`'\t'`, 9, 0, api.OK},
		{`'\r'`, 13, 0, api.OK},
		{`'\0'`, 0, 0, api.OK},
		{`'\\'`, 92, 0, api.OK},
		{`'\"'`, 34, 0, api.OK},
		{`'\''`, 39, 0, api.OK},
		{`'\x80'`, 128, 0, api.OK},
		{`'\xFf'`, 255, 0, api.OK},
		{`'\u00e9'`, 233, 0, api.OK},
		{`'\uffff'`, 0xFFFF, 0, api.OK},
	})
}

// P1.7: what is refused, and at which place.
func TestRuneRefused(t *testing.T) {
	tryRune(t, []runeCase{
		{"", 0, 0, api.ErrOpen},
		{"a", 0, 0, api.ErrOpen},
		{`"a"`, 0, 0, api.ErrOpen},
		{`'`, 0, 1, api.ErrOpen},
		{`''`, 0, 1, api.ErrToken},
		{`'''`, 0, 1, api.ErrToken},
		{`''a'`, 0, 1, api.ErrToken},
		{`'a`, 0, 2, api.ErrOpen},
		{`'ab'`, 0, 2, api.ErrOpen},
		{`'a"`, 0, 2, api.ErrOpen},
		{"'\u00e9", 0, 3, api.ErrOpen},
		{"'\u00e9e'", 0, 3, api.ErrOpen},
		{"'a\xff'", 0, 2, api.ErrOpen},
		{`'\n`, 0, 3, api.ErrOpen},
		{`'\'`, 0, 3, api.ErrOpen},
		{`'\x41`, 0, 5, api.ErrOpen},
		{`'\x411'`, 0, 5, api.ErrOpen},
		{`'\u0041x'`, 0, 7, api.ErrOpen},
		{`'a'b`, 0, 3, api.ErrToken},
		{`'a''`, 0, 3, api.ErrToken},
		{"'\u00e9' ", 0, 4, api.ErrToken},
		{`'\n'b`, 0, 4, api.ErrToken},
		{`'\`, 0, 1, api.ErrEscape},
		{`'\q'`, 0, 1, api.ErrEscape},
		{`'\x4'`, 0, 1, api.ErrEscape},
		{`'\x`, 0, 1, api.ErrEscape},
		{`'\u004'`, 0, 1, api.ErrEscape},
		{`'\ud800'`, 0, 1, api.ErrEscape},
		{`'\udfff'`, 0, 1, api.ErrEscape},
		{"'\n'", 0, 1, api.ErrToken},
		{"'\x1f'", 0, 1, api.ErrToken},
		{"'\x7f'", 0, 1, api.ErrToken},
		{"'\xe9'", 0, 1, api.ErrUtf},
		{"'\xed\xa0\x80'", 0, 1, api.ErrUtf},
		{"'\xff", 0, 1, api.ErrUtf},
	})
}

// P1.7: each rune as it is, but for those that may not stand so.
func TestRuneOfEveryRune(t *testing.T) {
	for r := 0; r <= 0x10FFFF; r++ {
		code := codeOf(r)
		if code == "" || r == '\'' || r == '\\' {
			continue
		}
		want, wantAt, wantErr := int32(r), 0, api.OK
		if r < 32 || r == 127 {
			want, wantAt, wantErr = 0, 1, api.ErrToken
		}
		if got, at, err := text.Rune("'" + code + "'"); got != want || at != wantAt || err != wantErr {
			t.Fatalf("Rune of %#x: %d, %d, %d", r, got, at, err)
		}
	}
}

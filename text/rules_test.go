package text_test

import (
	"slices"
	"testing"
	"unsafe"

	"playpen/api"
	"playpen/text"
)

// R3: arguments stay as they are, the spare room of their lists too.
func TestArgumentsStay(t *testing.T) {
	whole := []byte("a\"\x07\xffspare")
	kept := slices.Clone(whole)
	text.Show(whole[:4])
	text.Guest(whole[:4])
	if !slices.Equal(whole, kept) {
		t.Errorf("bytes became %q", whole)
	}
	signs := []string{"<=", "<", "+", "spare"}
	text.Tokens("a<=b+c", signs[:3]...)
	list := []api.Token{{Kind: api.TokName, At: 5, Text: "a"}, {Kind: api.TokSign, At: 3, Text: "<="}, {Kind: api.TokName, At: 1, Text: "b"}, {Kind: api.TokName, At: 9, Text: "spare"}}
	listKept := slices.Clone(list)
	text.Glue(list[:3], signs[:3]...)
	if !slices.Equal(signs, []string{"<=", "<", "+", "spare"}) || !slices.Equal(list, listKept) {
		t.Errorf("lists became %q, %v", signs, list)
	}
}

// R3: what is answered is memory of its own.
func TestAnswersAreTheirOwn(t *testing.T) {
	first, _, _ := text.Tokens("a b")
	second, _, _ := text.Tokens("a b")
	first[0].Text, first[1].At = "z", 77
	_ = append(first[:1], api.Token{})
	if second[0].Text != "a" || second[1].At != 2 || second[1].Text != "b" {
		t.Errorf("tokens share memory: %v", second)
	}
	one, _, _ := text.Bytes(`"ab"`)
	other, _, _ := text.Bytes(`"ab"`)
	clear(one[:cap(one)])
	if string(other) != "ab" {
		t.Errorf("bytes share memory: %q", other)
	}
	b := []byte("hello")
	shown, told := text.Show(b), text.Guest(b)
	clear(b)
	if shown != `"hello"` || told != "hello" {
		t.Errorf("texts share memory: %s, %s", shown, told)
	}
}

// R3: the text of a token is no piece of the text that was cut.
func TestTokensHoldNoArgument(t *testing.T) {
	s := "name 1e+3 <= \"a\" 'b'\n"
	begin := uintptr(unsafe.Pointer(unsafe.StringData(s)))
	list, _, err := text.Tokens(s, "<=")
	if len(list) != 6 || err != api.OK {
		t.Fatalf("Tokens: %v, %d", list, err)
	}
	for _, token := range list {
		at := uintptr(unsafe.Pointer(unsafe.StringData(token.Text)))
		if at >= begin && at < begin+uintptr(len(s)) {
			t.Errorf("the token %q is a piece of the argument", token.Text)
		}
	}
}

// R1: no call panics or goes on for ever at whatever it is given.
func FuzzEveryCall(f *testing.F) {
	for _, s := range []string{"", "x1 = 0x1e+3 # so", "\"\\u00e9\\", "'\\x4", "\xef\xbf\xbd\xff", "1e+-\n\"", "# \x00"} {
		f.Add(s, "+", 3)
	}
	f.Fuzz(func(t *testing.T, s, sign string, at int) {
		if got, want := runesOf(s), cutting(s); !slices.Equal(got, want) {
			t.Fatalf("Runes(%q): %v, want %v", s, got, want)
		}
		if _, _, err := text.Where(s, at); (err == api.OK) != (at >= 0 && at <= len(s)) {
			t.Fatalf("Where(%q, %d): %d", s, at, err)
		}
		followsTokens(t, s, []string{sign})
		if back, _, err := text.Bytes(text.Show([]byte(s))); string(back) != s || err != api.OK {
			t.Fatalf("Bytes of Show(%q): %q, %d", s, back, err)
		}
		if once := text.Guest([]byte(s)); once != guestBy(s) || text.Guest([]byte(once)) != once {
			t.Fatalf("Guest(%q): %q", s, once)
		}
		for _, literal := range []string{s, "\"" + s, "'" + s, "\"" + s + "\"", "'" + s + "'"} {
			if _, place, err := text.Bytes(literal); place < 0 || place > len(literal) || err == api.OK && place != 0 {
				t.Fatalf("Bytes(%q): %d, %d", literal, place, err)
			}
			if _, place, err := text.Rune(literal); place < 0 || place > len(literal) || err == api.OK && place != 0 {
				t.Fatalf("Rune(%q): %d, %d", literal, place, err)
			}
		}
	})
}

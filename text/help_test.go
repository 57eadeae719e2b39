package text_test

import (
	"slices"
	"strings"

	"playpen/api"
)

// thing is a rune or a lost byte of a cutting, as Runes tells it.
type thing struct {
	at     int
	number int32
}

// codeOf gives the code of a rune by the document's rule, none where there is none.
func codeOf(r int) string {
	six := func(shift int) byte { return 0x80 + byte(r>>shift&63) }
	switch {
	case r < 0 || r > 0x10FFFF || r >= 0xD800 && r <= 0xDFFF:
		return ""
	case r < 0x80:
		return string([]byte{byte(r)})
	case r < 0x800:
		return string([]byte{0xC0 + byte(r>>6), six(0)})
	case r < 0x10000:
		return string([]byte{0xE0 + byte(r>>12), six(6), six(0)})
	}
	return string([]byte{0xF0 + byte(r>>18), six(12), six(6), six(0)})
}

// runeAhead gives the rune with whose code s begins and the bytes of that code: the bits are gathered for each length, and the code of what they make is held against s.
func runeAhead(s string) (int, int) {
	for size := 1; size <= 4 && size <= len(s); size++ {
		r := int(s[0])
		if size > 1 {
			r = int(s[0]) & (0x7F >> size)
		}
		for _, c := range []byte(s[1:size]) {
			r = r<<6 | int(c&63)
		}
		if codeOf(r) == s[:size] {
			return r, size
		}
	}
	return 0, 0
}

// cutting is the cutting of a text by the document's words.
func cutting(s string) []thing {
	var things []thing
	for at := 0; at < len(s); {
		r, size := runeAhead(s[at:])
		if size == 0 {
			r, size = -1-int(s[at]), 1
		}
		things = append(things, thing{at, int32(r)})
		at += size
	}
	return things
}

// eachText visits every text of at most so many of the parts.
func eachText(parts []string, most int, visit func(string)) {
	var grow func(string, int)
	grow = func(s string, left int) {
		visit(s)
		if left == 0 {
			return
		}
		for _, part := range parts {
			grow(s+part, left-1)
		}
	}
	grow("", most)
}

// nastyParts are bytes at the edges of UTF-8: whole runes, beginnings, ends, and what never stands in it.
func nastyParts() []string {
	return []string{"a", "\n", "\x00", "\x7f", "\x80", "\xbf", "\xc0", "\xc2", "\xdf", "\xe0", "\xa0", "\xed", "\xef", "\xbd", "\xf0", "\x90", "\xf4", "\x8f", "\xf5", "\xff", "\u00e9", "\ufffd"}
}

// tokens makes a list of tokens from kinds and texts, all At nought.
func tokens(kindsAndTexts ...any) []api.Token {
	var list []api.Token
	for i := 0; i < len(kindsAndTexts); i += 2 {
		list = append(list, api.Token{Kind: kindsAndTexts[i].(api.TokenKind), Text: kindsAndTexts[i+1].(string)})
	}
	return list
}

// withoutPlaces gives the tokens with all At nought.
func withoutPlaces(list []api.Token) []api.Token {
	list = slices.Clone(list)
	for i := range list {
		list[i].At = 0
	}
	return list
}

// manySigns gives so many signs, no two the same.
func manySigns(count int) []string {
	bytes := strings.Split("!$%&()*+,-./:;<=>?@[]^{|}~", "")
	signs := slices.Clone(bytes)
	for _, a := range bytes {
		for _, b := range bytes {
			signs = append(signs, a+b)
		}
	}
	return signs[:count]
}

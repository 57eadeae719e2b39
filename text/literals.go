package text

import (
	"strings"
	"unicode/utf8"

	"playpen/api"
)

// Behind a backslash each of shortLetters stands for the byte of shortBytes in the same place.
const (
	shortLetters = `ntr0"\`
	shortBytes   = "\n\t\r\x00\"\\"
	hexDigits    = "0123456789abcdef"
)

// piece is one thing of a literal: the number that it stands for, whether that is a byte's and not a rune's, and how many bytes of the literal it has.
type piece struct {
	number int32
	single bool
	size   int
}

// Show gives the literal of bytes.
func Show(b []byte) string {
	shown := []byte{'"'}
	for _, c := range b {
		if i := strings.IndexByte(shortBytes, c); i >= 0 {
			shown = append(shown, '\\', shortLetters[i])
		} else if c >= ' ' && c <= '~' {
			shown = append(shown, c)
		} else {
			shown = append(shown, '\\', 'x', hexDigits[c>>4], hexDigits[c&15])
		}
	}
	return string(append(shown, '"'))
}

// Bytes gives what a literal in quotation marks stands for; else the place of the first fault.
func Bytes(literal string) ([]byte, int, api.Errno) {
	if !strings.HasPrefix(literal, "\"") {
		return nil, 0, api.ErrOpen
	}
	var b []byte
	at := 1
	for at < len(literal) {
		if literal[at] == '"' {
			if at+1 < len(literal) {
				return nil, at + 1, api.ErrToken
			}
			return b, 0, api.OK
		}
		p, err := read(literal[at:])
		if err != api.OK {
			return nil, at, err
		}
		if p.single {
			b = append(b, byte(p.number))
		} else {
			b = utf8.AppendRune(b, p.number)
		}
		at += p.size
	}
	return nil, at, api.ErrOpen
}

// Rune gives the number of the rune that a literal in apostrophes stands for; else the place of the first fault.
func Rune(literal string) (int32, int, api.Errno) {
	if !strings.HasPrefix(literal, "'") {
		return 0, 0, api.ErrOpen
	}
	if len(literal) == 1 {
		return 0, 1, api.ErrOpen
	}
	if literal[1] == '\'' {
		return 0, 1, api.ErrToken
	}
	p, err := read(literal[1:])
	if err != api.OK {
		return 0, 1, err
	}
	end := 1 + p.size
	if !strings.HasPrefix(literal[end:], "'") {
		return 0, end, api.ErrOpen
	}
	if end+1 < len(literal) {
		return 0, end + 1, api.ErrToken
	}
	return p.number, 0, api.OK
}

// read gives the piece with which s begins, which is not empty. What ends a literal it takes as it is: the two kinds of literals end differently.
func read(s string) (piece, api.Errno) {
	number := first(s)
	switch {
	case number == '\\':
		p, ok := escape(s[1:])
		if !ok {
			return piece{}, api.ErrEscape
		}
		return p, api.OK
	case number < 0:
		return piece{}, api.ErrUtf
	case number < ' ' || number == 0x7F:
		return piece{}, api.ErrToken
	}
	return piece{number: number, size: utf8.RuneLen(number)}, api.OK
}

// escape gives the piece whose backslash stands right ahead of s, if it may stand for something.
func escape(s string) (piece, bool) {
	if s == "" {
		return piece{}, false
	}
	switch s[0] {
	case '\'':
		return piece{number: '\'', single: true, size: 2}, true
	case 'x':
		number, ok := hexNumber(s[1:], 2)
		return piece{number: number, single: true, size: 4}, ok
	case 'u':
		number, ok := hexNumber(s[1:], 4)
		return piece{number: number, size: 6}, ok && utf8.ValidRune(number)
	}
	i := strings.IndexByte(shortLetters, s[0])
	if i < 0 {
		return piece{}, false
	}
	return piece{number: int32(shortBytes[i]), single: true, size: 2}, true
}

// hexNumber gives the number of the first so many hexadecimal digits of s, if there are as many.
func hexNumber(s string, count int) (int32, bool) {
	if len(s) < count {
		return 0, false
	}
	var number int32
	for _, c := range []byte(s[:count]) {
		digit, ok := hexDigit(c)
		if !ok {
			return 0, false
		}
		number = number*16 + digit
	}
	return number, true
}

func hexDigit(c byte) (int32, bool) {
	switch {
	case '0' <= c && c <= '9':
		return int32(c - '0'), true
	case 'a' <= c && c <= 'f':
		return int32(c-'a') + 10, true
	case 'A' <= c && c <= 'F':
		return int32(c-'A') + 10, true
	}
	return 0, false
}

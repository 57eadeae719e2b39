// Package text is layer 1: what assembler, source language and shell read in common: runes, tokens, literals: see shared/doc/01-text.md.
package text

import (
	"bytes"
	"iter"
	"strings"
	"unicode/utf8"

	"playpen/api"
)

// wholeError is the rune FFFD as a text holds it whole: a range over a string tells that rune for a lost byte too.
const wholeError = "\uFFFD"

// Runes goes through a text: each rune's place and number; a byte that belongs to none: its place and -1 less the byte.
func Runes(s string) iter.Seq2[int, int32] {
	return func(yield func(int, int32) bool) {
		for at, number := range s {
			if number == utf8.RuneError && !strings.HasPrefix(s[at:], wholeError) {
				number = -1 - rune(s[at])
			}
			if !yield(at, number) {
				return
			}
		}
	}
}

// Where tells the line and the column of a place.
func Where(s string, at int) (int, int, api.Errno) {
	if at < 0 || at > len(s) {
		return 0, 0, api.ErrPlace
	}
	line, column := 1, 1
	for place, number := range Runes(s) {
		if place >= at {
			break
		}
		column++
		if number == '\n' {
			line, column = line+1, 1
		}
	}
	return line, column, api.OK
}

// Guest gives the text of bytes up to the first nought, as it may be printed.
func Guest(b []byte) string {
	if end := bytes.IndexByte(b, 0); end >= 0 {
		b = b[:end]
	}
	var told []byte
	for _, number := range Runes(string(b)) {
		if !isPrinted(number) {
			number = '?'
		}
		told = utf8.AppendRune(told, number)
	}
	return string(told)
}

func isPrinted(number int32) bool {
	return number == '\n' || number >= ' ' && (number < 0x7F || number > 0x9F)
}

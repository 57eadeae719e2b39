package text

import (
	"slices"
	"strings"

	"playpen/api"
)

// signBytes are the bytes of which signs are made, maxSign is how many of them a sign has at most.
const (
	signBytes = "!$%&()*+,-./:;<=>?@[]^{|}~"
	maxSign   = 3
)

// Tokens cuts a text into tokens, with these signs; else the place of the first fault.
func Tokens(s string, signs ...string) ([]api.Token, int, api.Errno) {
	if !mayBe(signs) {
		return nil, 0, api.ErrSigns
	}
	return cut(s, signs)
}

// Glue gives a text that is cut into these tokens.
func Glue(tokens []api.Token, signs ...string) (string, api.Errno) {
	if !mayBe(signs) {
		return "", api.ErrSigns
	}
	for _, token := range tokens {
		if !standsAlone(token, signs) {
			return "", api.ErrGlue
		}
	}
	var glued []byte
	for i, token := range tokens {
		if i > 0 && token.Kind != api.TokLine && tokens[i-1].Kind != api.TokLine {
			glued = append(glued, ' ')
		}
		glued = append(glued, token.Text...)
		if len(glued) > api.MaxSpeech {
			return "", api.ErrSpeech
		}
	}
	return string(glued), api.OK
}

// standsAlone tells whether a token's text is cut into just that token.
func standsAlone(token api.Token, signs []string) bool {
	alone, _, err := cut(token.Text, signs)
	return err == api.OK && len(alone) == 1 && alone[0].Kind == token.Kind && alone[0].Text == token.Text
}

// mayBe tells whether signs are a list that Tokens takes.
func mayBe(signs []string) bool {
	if len(signs) > api.MaxSigns {
		return false
	}
	for i, sign := range signs {
		if !isSign(sign) || slices.Contains(signs[:i], sign) {
			return false
		}
	}
	return true
}

func isSign(s string) bool {
	if s == "" || len(s) > maxSign {
		return false
	}
	for i := range len(s) {
		if strings.IndexByte(signBytes, s[i]) < 0 {
			return false
		}
	}
	return true
}

// cut is Tokens with signs that may be: Glue looks at the signs once, not once a token.
func cut(s string, signs []string) ([]api.Token, int, api.Errno) {
	if len(s) > api.MaxSpeech {
		return nil, api.MaxSpeech, api.ErrSpeech
	}
	var tokens []api.Token
	at := 0
next:
	for at < len(s) {
		var kind api.TokenKind
		end := at + 1
		number := first(s[at:])
		switch {
		case number == '\t' || number == '\r' || number == ' ':
			at++
			continue next
		case number == '#':
			at = lineEnd(s, at)
			continue next
		case number == '\n':
			kind = api.TokLine
		case number == '_' || isLetter(number):
			kind, end = api.TokName, nameEnd(s, at)
		case isDigit(number):
			kind, end = api.TokFigure, figureEnd(s, at)
		case number == '"' || number == '\'':
			var fault int
			var err api.Errno
			kind, end, fault, err = literalAt(s, at)
			if err != api.OK {
				return nil, fault, err
			}
		default:
			for size := min(maxSign, len(s)-at); size > 0; size-- {
				if slices.Contains(signs, s[at:at+size]) {
					tokens = append(tokens, tokenOf(s, at, at+size, api.TokSign))
					at += size
					continue next
				}
			}
			if number < 0 {
				return nil, at, api.ErrUtf
			}
			return nil, at, api.ErrToken
		}
		tokens = append(tokens, tokenOf(s, at, end, kind))
		at = end
	}
	return tokens, 0, api.OK
}

// tokenOf gives the token from at up to end. Its text is a copy, because a piece of s would be kept in the answer.
func tokenOf(s string, at, end int, kind api.TokenKind) api.Token {
	return api.Token{Kind: kind, At: at, Text: strings.Clone(s[at:end])}
}

// first gives the number of the first thing in the cutting of s; of an empty s there is none, and it is 0.
func first(s string) int32 {
	for _, number := range Runes(s) {
		return number
	}
	return 0
}

func isLetter(number int32) bool {
	return isPlainLetter(number) || number >= 0xC0
}

func isPlainLetter(number int32) bool {
	return 'A' <= number && number <= 'Z' || 'a' <= number && number <= 'z'
}

func isDigit(number int32) bool {
	return '0' <= number && number <= '9'
}

// lineEnd gives the place of the next line end, or the end of s.
func lineEnd(s string, at int) int {
	if length := strings.IndexByte(s[at:], '\n'); length >= 0 {
		return at + length
	}
	return len(s)
}

// nameEnd gives the place behind the name at a place.
func nameEnd(s string, at int) int {
	for place, number := range Runes(s[at:]) {
		if number != '_' && !isLetter(number) && !isDigit(number) {
			return at + place
		}
	}
	return len(s)
}

// figureEnd gives the place behind the figure at a place.
func figureEnd(s string, at int) int {
	// In a hexadecimal figure e is a digit, so that the power stands behind a p there.
	powers := "eE"
	if strings.HasPrefix(s[at:], "0x") || strings.HasPrefix(s[at:], "0X") {
		powers = "pP"
	}
	end := at + 1
	for end < len(s) && (isFigureByte(s[end]) || isPlusMinus(s[end]) && strings.IndexByte(powers, s[end-1]) >= 0) {
		end++
	}
	return end
}

func isFigureByte(c byte) bool {
	return isPlainLetter(int32(c)) || isDigit(int32(c)) || c == '_' || c == '.'
}

func isPlusMinus(c byte) bool {
	return c == '+' || c == '-'
}

// literalAt gives the kind of the literal at a place, and the place behind it; else the place of the fault.
func literalAt(s string, at int) (api.TokenKind, int, int, api.Errno) {
	end := literalEnd(s, at)
	if end == at {
		return 0, 0, at, api.ErrOpen
	}
	kind := api.TokBytes
	var fault int
	var err api.Errno
	if s[at] == '"' {
		_, fault, err = Bytes(s[at:end])
	} else {
		kind = api.TokRune
		_, fault, err = Rune(s[at:end])
	}
	if err != api.OK {
		return 0, 0, at + fault, err
	}
	return kind, end, 0, api.OK
}

// literalEnd gives the place behind the mark that ends the literal at a place; at, if its line has none.
func literalEnd(s string, at int) int {
	mark := s[at]
	for i := at + 1; i < len(s); i++ {
		switch s[i] {
		case mark:
			return i + 1
		case '\n':
			return at
		case '\\':
			i++
		}
	}
	return at
}

package text_test

import (
	"regexp"
	"slices"
	"strings"
	"testing"

	"playpen/api"
	"playpen/text"
)

type tokensCase struct {
	s    string
	want []api.Token
}

func tryTokens(t *testing.T, signs []string, cases []tokensCase) {
	t.Helper()
	for _, c := range cases {
		got, at, err := text.Tokens(c.s, signs...)
		if !slices.Equal(got, c.want) || at != 0 || err != api.OK {
			t.Errorf("Tokens(%q): %v, %d, %d, want %v", c.s, got, at, err, c.want)
		}
	}
}

// P1.3: blanks, line ends, comments, names.
func TestTokensWordsAndBlanks(t *testing.T) {
	tryTokens(t, nil, []tokensCase{
		{"", nil},
		{" \t\r ", nil},
		{"# all of it", nil},
		{"#\xff\x00\"'", nil},
		{"\n", []api.Token{{Kind: api.TokLine, At: 0, Text: "\n"}}},
		{"\r\n\n", []api.Token{{Kind: api.TokLine, At: 1, Text: "\n"}, {Kind: api.TokLine, At: 2, Text: "\n"}}},
		{"#\xff\n#", []api.Token{{Kind: api.TokLine, At: 2, Text: "\n"}}},
		{"a#b\nc", []api.Token{{Kind: api.TokName, At: 0, Text: "a"}, {Kind: api.TokLine, At: 3, Text: "\n"}, {Kind: api.TokName, At: 4, Text: "c"}}},
		{"_", []api.Token{{Kind: api.TokName, At: 0, Text: "_"}}},
		{"_a9Z", []api.Token{{Kind: api.TokName, At: 0, Text: "_a9Z"}}},
		{"AZ az", []api.Token{{Kind: api.TokName, At: 0, Text: "AZ"}, {Kind: api.TokName, At: 3, Text: "az"}}},
		{"\u00c0\u00d7\u00f7\U0010ffff_0", []api.Token{{Kind: api.TokName, At: 0, Text: "\u00c0\u00d7\u00f7\U0010ffff_0"}}},
		{"\ufffd", []api.Token{{Kind: api.TokName, At: 0, Text: "\ufffd"}}},
		{"a\u00e9 \u00e9a", []api.Token{{Kind: api.TokName, At: 0, Text: "a\u00e9"}, {Kind: api.TokName, At: 4, Text: "\u00e9a"}}},
		{"a\"\"b", []api.Token{{Kind: api.TokName, At: 0, Text: "a"}, {Kind: api.TokBytes, At: 1, Text: `""`}, {Kind: api.TokName, At: 3, Text: "b"}}},
	})
}

// P1.3: figures, and where a plus or minus belongs to them.
func TestTokensFigures(t *testing.T) {
	signs := []string{"+", "-", "."}
	for s, want := range map[string]string{
		"0":        "0",
		"1e+3.5":   "1e+3.5",
		"1E-3":     "1E-3",
		"0x1e+3":   "0x1e + 3",
		"0X1E-3":   "0X1E - 3",
		"0x1p+3":   "0x1p+3",
		"0X1P-3":   "0X1P-3",
		"0x1.8p-1": "0x1.8p-1",
		"0Xp+1":    "0Xp+1",
		"1p+3":     "1p + 3",
		"00x1p+3":  "00x1p + 3",
		"0xe+1":    "0xe + 1",
		"0e+1":     "0e+1",
		"0x+1":     "0x + 1",
		"1+2":      "1 + 2",
		"1e++2":    "1e+ + 2",
		"1e+-2":    "1e+ - 2",
		"1e+":      "1e+",
		"1e+e-f":   "1e+e-f",
		"1ee+2":    "1ee+2",
		"1e 2":     "1e 2",
		"1_000.x_": "1_000.x_",
		"9..9":     "9..9",
		"1.e+2":    "1.e+2",
		"1e.+2":    "1e. + 2",
		".5":       ". 5",
		"1\u00e9":  "1 \u00e9",
		"10zZ":     "10zZ",
		"1e\n+2":   "1e\n+ 2",
	} {
		list, at, err := text.Tokens(s, signs...)
		if err != api.OK || at != 0 {
			t.Errorf("Tokens(%q): %d, %d", s, at, err)
			continue
		}
		got, _ := text.Glue(list, signs...)
		if got != want || list[0].Kind != api.TokFigure && s != ".5" {
			t.Errorf("Tokens(%q): %q, want %q", s, got, want)
		}
	}
}

// P1.3: literals as tokens.
func TestTokensLiterals(t *testing.T) {
	tryTokens(t, nil, []tokensCase{
		{`"a b"`, []api.Token{{Kind: api.TokBytes, At: 0, Text: `"a b"`}}},
		{`"\"" "\\"`, []api.Token{{Kind: api.TokBytes, At: 0, Text: `"\""`}, {Kind: api.TokBytes, At: 5, Text: `"\\"`}}},
		{`"'"'"'`, []api.Token{{Kind: api.TokBytes, At: 0, Text: `"'"`}, {Kind: api.TokRune, At: 3, Text: `'"'`}}},
		{`"#"#"`, []api.Token{{Kind: api.TokBytes, At: 0, Text: `"#"`}}},
		{`'\'''a'`, []api.Token{{Kind: api.TokRune, At: 0, Text: `'\''`}, {Kind: api.TokRune, At: 4, Text: `'a'`}}},
		{"'\u00e9'\n", []api.Token{{Kind: api.TokRune, At: 0, Text: "'\u00e9'"}, {Kind: api.TokLine, At: 4, Text: "\n"}}},
		{`"\x41\u00e9"x`, []api.Token{{Kind: api.TokBytes, At: 0, Text: `"\x41\u00e9"`}, {Kind: api.TokName, At: 12, Text: "x"}}},
	})
}

// P1.3: of the signs with which the bytes begin the longest.
func TestTokensSigns(t *testing.T) {
	tryTokens(t, []string{"<", "<<=", "<=", "=", "-", ">"}, []tokensCase{
		{"<<=", []api.Token{{Kind: api.TokSign, At: 0, Text: "<<="}}},
		{"<<", []api.Token{{Kind: api.TokSign, At: 0, Text: "<"}, {Kind: api.TokSign, At: 1, Text: "<"}}},
		{"<==", []api.Token{{Kind: api.TokSign, At: 0, Text: "<="}, {Kind: api.TokSign, At: 2, Text: "="}}},
		{"a<=b", []api.Token{{Kind: api.TokName, At: 0, Text: "a"}, {Kind: api.TokSign, At: 1, Text: "<="}, {Kind: api.TokName, At: 3, Text: "b"}}},
		{"< =", []api.Token{{Kind: api.TokSign, At: 0, Text: "<"}, {Kind: api.TokSign, At: 2, Text: "="}}},
		{"->-1", []api.Token{{Kind: api.TokSign, At: 0, Text: "-"}, {Kind: api.TokSign, At: 1, Text: ">"}, {Kind: api.TokSign, At: 2, Text: "-"}, {Kind: api.TokFigure, At: 3, Text: "1"}}},
		{"<#<", []api.Token{{Kind: api.TokSign, At: 0, Text: "<"}}},
	})
	tryTokens(t, []string{"..."}, []tokensCase{{"......", []api.Token{{Kind: api.TokSign, At: 0, Text: "..."}, {Kind: api.TokSign, At: 3, Text: "..."}}}})
	for _, c := range strings.Split("!$%&()*+,-./:;<=>?@[]^{|}~", "") {
		tryTokens(t, []string{c + c + c, c}, []tokensCase{{c + c, []api.Token{{Kind: api.TokSign, At: 0, Text: c}, {Kind: api.TokSign, At: 1, Text: c}}}})
	}
}

// P1.3: what is refused, and at which place.
func TestTokensRefused(t *testing.T) {
	signs := []string{"+", "..."}
	for _, c := range []struct {
		s   string
		at  int
		err api.Errno
	}{
		{"a ! b", 2, api.ErrToken},
		{"..", 0, api.ErrToken},
		{"a\\", 1, api.ErrToken},
		{"`", 0, api.ErrToken},
		{"\x00", 0, api.ErrToken},
		{" \x0b", 1, api.ErrToken},
		{"\x0c", 0, api.ErrToken},
		{"\x7f", 0, api.ErrToken},
		{"a\u00bf", 1, api.ErrToken},
		{"\u0080", 0, api.ErrToken},
		{"\u00a0", 0, api.ErrToken},
		{"a \xff", 2, api.ErrUtf},
		{"a\x80", 1, api.ErrUtf},
		{"1\xe2\x82", 1, api.ErrUtf},
		{"\u00e9\xed\xa0\x80", 2, api.ErrUtf},
		{"\xef\xbf", 0, api.ErrUtf},
		{"+\xc0\x80", 1, api.ErrUtf},
		{"\"\n\"", 0, api.ErrOpen},
		{"a \"b", 2, api.ErrOpen},
		{"\"\\", 0, api.ErrOpen},
		{"\"\\\"", 0, api.ErrOpen},
		{"\"\xff\n\"", 0, api.ErrOpen},
		{"a '", 2, api.ErrOpen},
		{"'\n'", 0, api.ErrOpen},
		{"'\\'", 0, api.ErrOpen},
		{"a\n\"\\q\"", 3, api.ErrEscape},
		{"\"\\\n\"", 1, api.ErrEscape},
		{"\"\\\n", 0, api.ErrOpen},
		{"  \"ab\\xag\"", 5, api.ErrEscape},
		{" \"\x01\"", 2, api.ErrToken},
		{" \"\u00e9\xff\"", 4, api.ErrUtf},
		{"a ''", 3, api.ErrToken},
		{"a 'bc'", 4, api.ErrOpen},
		{"a '\\n\\n'", 5, api.ErrOpen},
		{"a '\\\n'", 3, api.ErrEscape},
		{"a '\t'", 3, api.ErrToken},
		{"a '\xff'", 3, api.ErrUtf},
		{"\xff !", 0, api.ErrUtf},
		{"! \xff", 0, api.ErrToken},
	} {
		if list, at, err := text.Tokens(c.s, signs...); len(list) != 0 || at != c.at || err != c.err {
			t.Errorf("Tokens(%q): %v, %d, %d, want %d, %d", c.s, list, at, err, c.at, c.err)
		}
	}
}

// P1.3 and P1.4: lists of signs that may be and that may not.
func TestSignsThatMayBe(t *testing.T) {
	for _, signs := range [][]string{nil, {"!"}, {"+", "++", "+++"}, {"-", "=", "-="}, manySigns(api.MaxSigns)} {
		if _, _, err := text.Tokens("a", signs...); err != api.OK {
			t.Errorf("Tokens with %q: %d", signs, err)
		}
		if _, err := text.Glue(nil, signs...); err != api.OK {
			t.Errorf("Glue with %q: %d", signs, err)
		}
	}
	bad := [][]string{{""}, {"++++"}, {"+", "-", "+"}, {"+", ""}, {"+ "}, {" "}, {"\n"}, {"+a"}, {"1"}, {"_"}, {"#"}, {"\""}, {"'"}, {"\\"}, {"`"}, {"\x00"}, {"\x7f"}, {"\u00e9"}, {"\xff"}, {"+\xbb"}, manySigns(api.MaxSigns + 1)}
	for _, signs := range bad {
		if list, at, err := text.Tokens("\xff"+strings.Repeat("a", api.MaxSpeech), signs...); len(list) != 0 || at != 0 || err != api.ErrSigns {
			t.Errorf("Tokens with %q: %d, %d", signs, at, err)
		}
		if s, err := text.Glue(tokens(api.TokName, "?"), signs...); s != "" || err != api.ErrSigns {
			t.Errorf("Glue with %q: %d", signs, err)
		}
	}
}

// P1.3: each byte as a sign: just those that the document lists.
func TestSignsOfEveryByte(t *testing.T) {
	for c := range 256 {
		want := api.ErrSigns
		if strings.IndexByte("!$%&()*+,-./:;<=>?@[]^{|}~", byte(c)) >= 0 {
			want = api.OK
		}
		for _, sign := range []string{string([]byte{byte(c)}), string([]byte{'+', byte(c)}), string([]byte{'+', '-', byte(c)})} {
			if _, _, err := text.Tokens("", sign); err != want {
				t.Errorf("the sign %q: %d, want %d", sign, err, want)
			}
		}
	}
}

// P1.3: the greatest text, and one byte more.
func TestTokensOfTheGreatestText(t *testing.T) {
	greatest := strings.Repeat("a", api.MaxSpeech)
	if list, at, err := text.Tokens(greatest); len(list) != 1 || list[0].Text != greatest || at != 0 || err != api.OK {
		t.Errorf("MaxSpeech bytes: %d tokens, %d, %d", len(list), at, err)
	}
	for _, more := range []string{greatest + "a", greatest + " ", "\xff" + greatest} {
		if list, at, err := text.Tokens(more); len(list) != 0 || at != api.MaxSpeech || err != api.ErrSpeech {
			t.Errorf("one byte more: %d tokens, %d, %d", len(list), at, err)
		}
	}
	for _, part := range []string{"\n", "+ ", "'a'", "\"\"", "1 ", "#\n"} {
		s := strings.Repeat(part, api.MaxSpeech/len(part))
		if list, at, err := text.Tokens(s, manySigns(api.MaxSigns)...); len(list) != len(s)/len(part) || at != 0 || err != api.OK {
			t.Errorf("many %q: %d tokens, %d, %d", part, len(list), at, err)
		}
	}
}

// byPattern cuts a text of bytes below 128 by patterns; the kind of what is passed is 0. Where no pattern fits it stops: false.
func byPattern(s string) ([]api.Token, bool) {
	patterns := []struct {
		kind    api.TokenKind
		pattern *regexp.Regexp
	}{{0, passedPattern}, {api.TokLine, linePattern}, {api.TokName, namePattern}, {api.TokFigure, hexPattern}, {api.TokFigure, figurePattern}, {api.TokBytes, bytesPattern}, {api.TokRune, runePattern}, {api.TokSign, signPattern}}
	var list []api.Token
next:
	for at := 0; at < len(s); {
		for _, p := range patterns {
			if found := p.pattern.FindString(s[at:]); found != "" {
				if p.kind != 0 {
					list = append(list, api.Token{Kind: p.kind, At: at, Text: found})
				}
				at += len(found)
				continue next
			}
		}
		return nil, false
	}
	return list, true
}

var (
	passedPattern = regexp.MustCompile(`^(?:[\t\r ]|#[^\n]*)`)
	linePattern   = regexp.MustCompile(`^\n`)
	namePattern   = regexp.MustCompile(`^[A-Za-z_][A-Za-z0-9_]*`)
	hexPattern    = regexp.MustCompile(`^0[xX](?:[pP][+-]|[A-Za-z0-9_.])*`)
	figurePattern = regexp.MustCompile(`^[0-9](?:[eE][+-]|[A-Za-z0-9_.])*`)
	bytesPattern  = regexp.MustCompile(`^"(?:\\[ntr0\\"']|\\x[0-9a-fA-F]{2}|[ !#-\[\]-~])*"`)
	runePattern   = regexp.MustCompile(`^'(?:\\[ntr0\\"']|\\x[0-9a-fA-F]{2}|[ -&(-\[\]-~])'`)
	signPattern   = regexp.MustCompile(`^(?:\+\+|\+|-)`)
)

// P1.3: against patterns, over all short texts of telling parts.
func TestTokensByPattern(t *testing.T) {
	signs := []string{"+", "-", "++"}
	try := func(s string) {
		want, ok := byPattern(s)
		got, at, err := text.Tokens(s, signs...)
		if !slices.Equal(got, want) || (err == api.OK) != ok || err == api.OK && at != 0 {
			t.Fatalf("Tokens(%q): %v, %d, %d, want %v", s, got, at, err, want)
		}
	}
	eachText([]string{"0", "1", "x", "X", "e", "E", "p", "P", "+", "-", "."}, 5, try)
	eachText([]string{"\"", "'", "\\", "n", "x", "0", "\n", "#", " ", "+", "!", "\x00"}, 5, try)
}

// followsTokens checks P1.9 and P1.10 at a text that Tokens takes.
func followsTokens(t *testing.T, s string, signs []string) {
	list, _, err := text.Tokens(s, signs...)
	if err != api.OK {
		return
	}
	end := 0
	gap := func(between string) {
		for _, line := range strings.SplitAfter(between, "\n") {
			blank, _, comment := strings.Cut(line, "#")
			if strings.Trim(blank, "\t\r ") != "" || !comment && strings.Contains(line, "\n") {
				t.Fatalf("between tokens of %q: %q", s, between)
			}
		}
	}
	for _, token := range list {
		if token.At < end || token.Text == "" || !strings.HasPrefix(s[token.At:], token.Text) {
			t.Fatalf("token of %q: %v", s, token)
		}
		gap(s[end:token.At])
		end = token.At + len(token.Text)
	}
	gap(s[end:])
	glued, err := text.Glue(list, signs...)
	again, _, err2 := text.Tokens(glued, signs...)
	if err != api.OK || err2 != api.OK || !slices.Equal(withoutPlaces(again), withoutPlaces(list)) {
		t.Fatalf("Glue of the tokens of %q: %q, %d, then %v, %d", s, glued, err, again, err2)
	}
}

// P1.9 and P1.10: where tokens stand, and that they come back through Glue.
func TestTokensAndBack(t *testing.T) {
	signs := []string{"+", "++", "<", "<=", "."}
	eachText([]string{"a", "1e", "0x", "_", "+", "<", "=", ".", "\n", " ", "# ", "\"\\\"\"", "'\u00e9'", "\u00e9", "\xff"}, 4, func(s string) {
		followsTokens(t, s, signs)
	})
}

// P1.4: what is glued, and that At is not looked at.
func TestGlueTaken(t *testing.T) {
	signs := []string{"+", "++"}
	for _, c := range []struct {
		list []api.Token
		want string
	}{
		{nil, ""},
		{tokens(api.TokName, "a"), "a"},
		{tokens(api.TokLine, "\n"), "\n"},
		{tokens(api.TokName, "a", api.TokName, "b"), "a b"},
		{tokens(api.TokName, "a", api.TokLine, "\n", api.TokName, "b"), "a\nb"},
		{tokens(api.TokLine, "\n", api.TokLine, "\n", api.TokFigure, "1e+2"), "\n\n1e+2"},
		{tokens(api.TokSign, "+", api.TokSign, "+", api.TokSign, "++"), "+ + ++"},
		{tokens(api.TokBytes, `"\""`, api.TokRune, `'"'`, api.TokBytes, `"#"`), `"\"" '"' "#"`},
		{tokens(api.TokFigure, "1e", api.TokSign, "+", api.TokFigure, "2"), "1e + 2"},
		{[]api.Token{{Kind: api.TokName, At: -7, Text: "a"}, {Kind: api.TokName, At: 99, Text: "\u00e9"}, {Kind: api.TokName, At: 99, Text: "_"}}, "a \u00e9 _"},
	} {
		got, err := text.Glue(c.list, signs...)
		if got != c.want || err != api.OK {
			t.Errorf("Glue(%v): %q, %d, want %q", c.list, got, err, c.want)
		}
		if again, _, _ := text.Tokens(got, signs...); !slices.Equal(withoutPlaces(again), withoutPlaces(c.list)) {
			t.Errorf("Tokens of %q: %v", got, again)
		}
	}
}

// P1.4: tokens that no text has.
func TestGlueRefused(t *testing.T) {
	signs := []string{"+", "++"}
	for _, list := range [][]api.Token{
		tokens(api.TokName, ""),
		tokens(api.TokenKind(0), ""),
		tokens(api.TokenKind(0), "a"),
		tokens(api.TokenKind(7), "a"),
		tokens(api.TokFigure, "a"),
		tokens(api.TokName, "1"),
		tokens(api.TokName, "a b"),
		tokens(api.TokName, " a"),
		tokens(api.TokName, "a "),
		tokens(api.TokName, "a#"),
		tokens(api.TokName, "a\n"),
		tokens(api.TokLine, "\n\n"),
		tokens(api.TokLine, ""),
		tokens(api.TokLine, "\r\n"),
		tokens(api.TokSign, "+++"),
		tokens(api.TokSign, "-"),
		tokens(api.TokRune, `"a"`),
		tokens(api.TokBytes, `'a'`),
		tokens(api.TokBytes, `"\q"`),
		tokens(api.TokBytes, `"a`),
		tokens(api.TokName, "\xff"),
		tokens(api.TokenKind(0), "#"),
		tokens(api.TokName, "a", api.TokSign, "!"),
		tokens(api.TokName, strings.Repeat("a", api.MaxSpeech+1)),
		tokens(api.TokName, strings.Repeat("a", api.MaxSpeech), api.TokName, "b", api.TokName, "?"),
	} {
		if s, err := text.Glue(list, signs...); s != "" || err != api.ErrGlue {
			t.Errorf("Glue(%.80v): %.80q, %d", list, s, err)
		}
	}
}

// P1.4: the greatest text that may be glued, and one byte more.
func TestGlueOfTheGreatestText(t *testing.T) {
	long := strings.Repeat("a", api.MaxSpeech-2)
	for _, c := range []struct {
		list []api.Token
		size int
		err  api.Errno
	}{
		{tokens(api.TokName, long+"bc"), api.MaxSpeech, api.OK},
		{tokens(api.TokName, long, api.TokName, "b"), api.MaxSpeech, api.OK},
		{tokens(api.TokName, long, api.TokName, "bc"), 0, api.ErrSpeech},
		{tokens(api.TokName, long+"b", api.TokName, "c"), 0, api.ErrSpeech},
		{tokens(api.TokName, long+"b", api.TokLine, "\n"), api.MaxSpeech, api.OK},
		{tokens(api.TokName, long+"bc", api.TokLine, "\n"), 0, api.ErrSpeech},
	} {
		if s, err := text.Glue(c.list); len(s) != c.size || err != c.err {
			t.Errorf("Glue: %d bytes, %d, want %d, %d", len(s), err, c.size, c.err)
		}
	}
	many := slices.Repeat(tokens(api.TokName, "a"), api.MaxSpeech/2)
	if s, err := text.Glue(many, manySigns(api.MaxSigns)...); len(s) != api.MaxSpeech-1 || err != api.OK {
		t.Errorf("Glue of many: %d bytes, %d", len(s), err)
	}
	if s, err := text.Glue(append(many, many[0]), manySigns(api.MaxSigns)...); s != "" || err != api.ErrSpeech {
		t.Errorf("Glue of one more: %d bytes, %d", len(s), err)
	}
}

package asm

import (
	"playpen/api"
	"playpen/text"
)

// names says of each name of a list as which one it stands there.
type names map[string]int

// add takes a name in, and tells whether it is new.
func (n names) add(name string) bool {
	if _, is := n[name]; is {
		return false
	}
	n[name] = len(n)
	return true
}

// assembler is how far the reading of a text has come.
type assembler struct {
	tokens  []api.Token // with a line's end more at the text's end, so that each line has one
	next    int         // the first token that is not read yet
	word    api.Token   // the word of the statement that is read
	section api.Section
	object  api.Object // its labels and fixes are in the order of the text yet

	labels  names
	opens   names
	targets names
	entries names
	opened  []api.Token // the names that are to be open
	stacked bool        // whether there was a stack
}

// newAssembler gives an assembler ahead of a text's first token.
func newAssembler(s string) *assembler {
	tokens, at, err := text.Tokens(s, ":", ",", "+", "-")
	if err != api.OK {
		panic(fault{err, at})
	}
	return &assembler{
		tokens:  append(tokens, api.Token{Kind: api.TokLine, At: len(s)}),
		section: api.SecCode,
		labels:  names{}, opens: names{}, targets: names{}, entries: names{},
	}
}

// line reads a line, with its end.
func (a *assembler) line(statements map[string]func()) {
	for a.atLabel() {
		a.label()
	}
	if a.peek().Kind != api.TokLine {
		a.statement(statements)
	}
	a.next++
}

// statement reads a statement up to its line's end.
func (a *assembler) statement(statements map[string]func()) {
	a.word = a.take(api.TokName)
	read, is := statements[a.word.Text]
	if !is {
		panic(fault{api.ErrMnemonic, a.word.At})
	}
	read()
}

// atLabel tells whether a label comes next. A name is never the last token, so there is one behind it.
func (a *assembler) atLabel() bool {
	return a.peek().Kind == api.TokName && isSign(a.tokens[a.next+1], ":")
}

// label reads a label.
func (a *assembler) label() {
	name := a.take(api.TokName)
	a.next++
	if !a.labels.add(name.Text) {
		panic(fault{api.ErrTwice, name.At})
	}
	if len(a.object.Labels) == api.MaxLabels {
		panic(fault{api.ErrAsmRoom, name.At})
	}
	a.object.Labels = append(a.object.Labels, api.Label{Name: name.Text, In: a.section, At: a.here()})
}

// here tells where the section ends by now.
func (a *assembler) here() uint32 {
	switch a.section {
	case api.SecCode:
		return uint32(len(a.object.Code))
	case api.SecData:
		return uint32(len(a.object.Data))
	}
	return a.object.Zero
}

// peek gives the next token.
func (a *assembler) peek() api.Token { return a.tokens[a.next] }

// take reads a token, which must be of a kind.
func (a *assembler) take(kind api.TokenKind) api.Token {
	token := a.peek()
	if token.Kind != kind {
		panic(fault{api.ErrForm, token.At})
	}
	a.next++
	return token
}

// passes reads a sign, if it comes next, and tells whether it did.
func (a *assembler) passes(sign string) bool {
	if !isSign(a.peek(), sign) {
		return false
	}
	a.next++
	return true
}

func isSign(token api.Token, sign string) bool {
	return token.Kind == api.TokSign && token.Text == sign
}

// list reads things with a comma between each two, up to the line's end.
func (a *assembler) list(read func()) {
	read()
	for a.passes(",") {
		read()
	}
	a.ended()
}

// ended refuses what is left over of a line.
func (a *assembler) ended() {
	if a.peek().Kind != api.TokLine {
		panic(fault{api.ErrForm, a.peek().At})
	}
}

// within refuses a statement with which there would be more of something than there may be. It is asked when all else is right.
func (a *assembler) within(count, most int) {
	if count > most {
		panic(fault{api.ErrAsmRoom, a.word.At})
	}
}

package asm

import (
	"playpen/api"
	"playpen/figure"
	"playpen/text"
)

// operand is a word, or, if it has a name, what a fix says.
type operand struct {
	value uint32
	name  string
	add   uint32
}

// operand reads an operand of at most so much; whether it may be a float hangs on the statement.
func (a *assembler) operand(floats bool, most uint32) operand {
	if a.peek().Kind == api.TokName {
		return a.reference()
	}
	at := a.peek().At
	value := a.value(floats)
	if value > most {
		panic(fault{api.ErrOperand, at})
	}
	return operand{value: value}
}

// number reads a number, which must be one of those that may be here.
func (a *assembler) number(mayBe func(uint32) bool) uint32 {
	at := a.peek().At
	value := a.value(false)
	if !mayBe(value) {
		panic(fault{api.ErrOperand, at})
	}
	return value
}

// value reads a number, or a float where there may be one.
func (a *assembler) value(floats bool) uint32 {
	first := a.peek()
	if first.Kind == api.TokRune {
		a.next++
		number, _, _ := text.Rune(first.Text)
		return uint32(number)
	}
	sign := ""
	if a.passes("-") {
		sign = "-"
	}
	digits := a.take(api.TokFigure).Text
	value, _, err := figure.Word(sign + digits)
	if err == api.OK {
		return value
	}
	// A row of digits that is too large for a word is no float: it was meant as a word.
	if floats && !isRow(digits) {
		if bits, _, refused := figure.Read32(sign + digits); refused == api.OK {
			return bits
		}
	}
	panic(fault{err, first.At})
}

// isRow tells whether a figure is a row of digits.
func isRow(s string) bool {
	for _, c := range []byte(s) {
		if c < '0' || c > '9' {
			return false
		}
	}
	return true
}

// reference reads a name, and what is to be added to its value.
func (a *assembler) reference() operand {
	name := a.take(api.TokName).Text
	switch {
	case a.passes("+"):
		return operand{name: name, add: a.distance()}
	case a.passes("-"):
		return operand{name: name, add: -a.distance()}
	}
	return operand{name: name}
}

// distance reads the figure behind a name's sign.
func (a *assembler) distance() uint32 {
	token := a.take(api.TokFigure)
	value, _, err := figure.Word(token.Text)
	if err != api.OK {
		panic(fault{err, token.At})
	}
	return value
}

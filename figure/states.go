package figure

import (
	"math/big"
	"strings"

	"playpen/api"
)

// state is how far the reading of a binary number's figure has come.
type state int

const (
	refused state = iota // what was read begins no figure
	atBegin
	atMinus
	atN
	atNa
	atNan
	atI
	atIn
	atInf
	atNought // a first 0, which an x may follow
	atWhole
	atPoint
	atPart
	atBase // the x
	atHexWhole
	atHexPoint
	atHexPart
	atMark // the e or the p
	atMarkSign
	atPower
)

const (
	tenDigits = "0123456789"
	hexDigits = tenDigits + "abcdefABCDEF"
)

// move is a way from one state to another, and the bytes that lead there.
type move struct {
	from  state
	bytes string
	to    state
}

var moves = [...]move{
	{atBegin, "-", atMinus},
	{atBegin, "n", atN}, {atN, "a", atNa}, {atNa, "n", atNan},
	{atBegin, "i", atI}, {atMinus, "i", atI}, {atI, "n", atIn}, {atIn, "f", atInf},
	{atBegin, "0", atNought}, {atMinus, "0", atNought},
	{atBegin, tenDigits, atWhole}, {atMinus, tenDigits, atWhole}, {atNought, tenDigits, atWhole}, {atWhole, tenDigits, atWhole},
	{atNought, ".", atPoint}, {atWhole, ".", atPoint}, {atPoint, tenDigits, atPart}, {atPart, tenDigits, atPart},
	{atNought, "eE", atMark}, {atWhole, "eE", atMark}, {atPart, "eE", atMark},
	{atNought, "x", atBase}, {atBase, hexDigits, atHexWhole}, {atHexWhole, hexDigits, atHexWhole},
	{atHexWhole, ".", atHexPoint}, {atHexPoint, hexDigits, atHexPart}, {atHexPart, hexDigits, atHexPart},
	{atHexWhole, "p", atMark}, {atHexPart, "p", atMark},
	{atMark, "+-", atMarkSign}, {atMark, tenDigits, atPower}, {atMarkSign, tenDigits, atPower}, {atPower, tenDigits, atPower},
}

// next gives the state to which a byte leads; of several ways the first one is taken.
func next(now state, c byte) state {
	for _, m := range moves {
		if m.from == now && strings.IndexByte(m.bytes, c) >= 0 {
			return m.to
		}
	}
	return refused
}

// sortAt tells what sort of number a figure is that ends in a state; 0, if none may end there.
func sortAt(now state) api.Sort {
	switch now {
	case atNan:
		return api.SortNone
	case atInf:
		return api.SortEndless
	case atNought, atWhole, atPart, atPower:
		return api.SortFinite
	}
	return 0
}

// found is what the states have gathered of a figure.
type found struct {
	sort   api.Sort
	minus  bool
	digits string // ahead of the power, those behind the point too
	behind int    // how many of them stand behind the point
	base   int    // theirs
	down   bool   // whether the power is below 0
	power  int
}

// farPower is a power from which on nothing changes: no row of digits that has room in a figure brings a number back from it.
const farPower = 2000

// find goes through a figure from state to state, and tells the place of the first fault.
func find(s string) (found, int, api.Errno) {
	if len(s) > api.MaxFigure {
		return found{}, api.MaxFigure, api.ErrDigits
	}
	f := found{base: 10}
	now, at := atBegin, 0
again:
	if at < len(s) {
		now = next(now, s[at])
		if now == refused {
			return found{}, at, api.ErrFigure
		}
		f.take(now, s[at])
		at++
		goto again
	}
	f.sort = sortAt(now)
	if f.sort == 0 {
		return found{}, at, api.ErrFigure
	}
	return f, 0, api.OK
}

// take gathers what a byte says that has led to a state.
func (f *found) take(now state, c byte) {
	switch now {
	case atMinus:
		f.minus = true
	case atBase:
		f.base = 16
	case atNought, atWhole, atHexWhole:
		f.digits += string(c)
	case atPart, atHexPart:
		f.digits += string(c)
		f.behind++
	case atMarkSign:
		f.down = c == '-'
	case atPower:
		f.power = min(f.power*10+int(digitOf(c)), farPower)
	}
}

// value gives the exact value, without its sign, of a figure that has digits.
func (f found) value() ratio {
	mant, _ := new(big.Int).SetString(f.digits, f.base)
	shift := f.power
	if f.down {
		shift = -shift
	}
	if f.base == 16 {
		return ratioOf(mant).times(2, shift-4*f.behind)
	}
	return ratioOf(mant).times(10, shift-f.behind)
}

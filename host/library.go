package host

import (
	"playpen/api"
	"playpen/mem"
)

// firstCall is the least number of a call of the library.
const firstCall = api.CallPrint

// row says by which word a call is known, and how many words it hands over.
type row struct {
	word  string
	count int
}

// library gives the rows by the calls' numbers; those below firstCall are empty.
func library() [api.LastCall + 1]row {
	return [api.LastCall + 1]row{
		api.CallPrint: {"print", 1}, api.CallPut: {"put", 1},
		api.CallInt: {"int", 1}, api.CallHex: {"hex", 1}, api.CallFloat: {"float", 1},
		api.CallClear:  {"clear", 0},
		api.CallLength: {"length", 1}, api.CallRunes: {"runes", 1},
		api.CallParse: {"parse", 2}, api.CallParseF: {"parsef", 2},
		api.CallGet: {"get", 2}, api.CallSet: {"set", 2},
		api.CallSeed: {"seed", 1}, api.CallRandom: {"random", 1},
		api.CallClock: {"clock", 0},
		api.CallSqrt:  {"sqrt", 1}, api.CallFloor: {"floor", 1}, api.CallAbs: {"abs", 1},
		api.CallAdd: {"add", 3}, api.CallMul: {"mul", 3}, api.CallDiv: {"div", 3}, api.CallTurn: {"turn", 3},
		api.CallFar:  {"far", 1},
		api.CallWave: {"wave", 3},
	}
}

// answers gives what answers each call, by the calls' numbers.
func (h *Host) answers() [api.LastCall + 1]func(asked) api.Reply {
	return [api.LastCall + 1]func(asked) api.Reply{
		api.CallPrint: h.printText, api.CallPut: h.putRune,
		api.CallInt: h.putInt, api.CallHex: h.putHex, api.CallFloat: h.putFloat,
		api.CallClear:  h.clearConsole,
		api.CallLength: h.countBytes, api.CallRunes: h.countRunes,
		api.CallParse: h.parseWord, api.CallParseF: h.parseFloat,
		api.CallGet: h.getVar, api.CallSet: h.setVar,
		api.CallSeed: h.setSeed, api.CallRandom: h.random,
		api.CallClock: h.tellClock,
		api.CallSqrt:  h.root, api.CallFloor: h.floor, api.CallAbs: h.withoutSign,
		api.CallAdd: h.addPoints, api.CallMul: h.mulPoints, api.CallDiv: h.divPoints, api.CallTurn: h.turnPoint,
		api.CallFar:  h.far,
		api.CallWave: h.wave,
	}
}

// Grants gives a grant of every call of the library, rising.
func Grants() []api.Grant {
	var grants []api.Grant
	rows := library()
	for number := firstCall; number <= api.LastCall; number++ {
		grants = append(grants, api.Grant{Number: number, Args: rows[number].count})
	}
	return grants
}

// Word tells a call's word; the empty text, if there is no such call.
func Word(number uint32) string {
	if !isCall(number) {
		return ""
	}
	return library()[number].word
}

// ByWord tells the call of a word, if there is one.
func ByWord(word string) (uint32, bool) {
	rows := library()
	for number := firstCall; number <= api.LastCall; number++ {
		if rows[number].word == word {
			return number, true
		}
	}
	return 0, false
}

// Answer answers a call that a module with these data has made.
func (h *Host) Answer(data []byte, ask api.Event) (api.Reply, api.Errno) {
	if !h.isMade() {
		return api.Reply{}, api.ErrNil
	}
	segment, err := mem.From(data)
	if err != api.OK {
		return api.Reply{}, err
	}
	if !isCall(ask.Number) {
		return api.Reply{}, api.ErrLibrary
	}
	if len(ask.Args) != library()[ask.Number].count {
		return api.Reply{}, api.ErrCallArgs
	}
	answer := h.answers()[ask.Number]
	return answer(askedBy(segment, ask.Args)), api.OK
}

// isCall tells whether the library has a call of a number.
func isCall(number uint32) bool {
	return number >= firstCall && number <= api.LastCall
}

package gate

import (
	"slices"

	"playpen/api"
	"playpen/mem"
)

// Number tells the number of the system call that a call of this word makes, if it is one.
func Number(word uint32) (uint32, bool) {
	if int32(word) >= 0 {
		return 0, false
	}
	// -1 less a word is the word with every bit turned.
	return ^word, true
}

// Words loads the words of a call of a number from the memory, if it is granted.
func (g *Gate) Words(m *mem.Memory, sp uint32, number uint32) ([]uint32, bool) {
	count, is := g.Granted(number)
	if !is || !isMemory(m) {
		return nil, false
	}
	// At sp itself a call of a procedure keeps where it comes back.
	return loaded(m.Load4, sp+4, count), true
}

// Event makes the event of a call of a number with these words and a reply.
func (g *Gate) Event(at uint32, number uint32, words []uint32, r api.Reply) (api.Event, api.Errno) {
	if !g.isMade() {
		return api.Event{}, api.ErrNil
	}
	count, is := g.Granted(number)
	if !is {
		return api.Event{}, api.ErrNumber
	}
	if len(words) != count {
		return api.Event{}, api.ErrShape
	}
	if !Fits(r) {
		return api.Event{}, api.ErrReply
	}
	return api.Event{At: at, Number: number, Args: slices.Clone(words), Value: r.Value}, api.OK
}

// loaded gives so many words, four bytes each, from an address on.
func loaded(load func(at uint32) uint32, at uint32, count int) []uint32 {
	words := make([]uint32, count)
	for i := range words {
		words[i] = load(at + 4*uint32(i))
	}
	return words
}

// isMemory tells whether mem made the memory: any that it made has bits, and asking for them touches nothing.
func isMemory(m *mem.Memory) bool {
	return m.Bits() > 0
}

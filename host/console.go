package host

import (
	"unicode/utf8"

	"playpen/api"
	"playpen/figure"
	"playpen/text"
)

// noRoom is the value of a call that would put more on the console than it holds.
const noRoom = 0xFFFFFFFF

// put puts a text behind the console, whole or not at all.
func (h *Host) put(s string) api.Reply {
	if len(h.console)+len(s) > api.MaxConsole {
		return told(noRoom)
	}
	h.console = append(h.console, s...)
	return told(uint32(len(s)))
}

func (h *Host) printText(q asked) api.Reply { return h.put(text.Guest(q.text())) }

func (h *Host) putRune(q asked) api.Reply {
	if !isShown(q.a) {
		return h.put("?")
	}
	return h.put(string(rune(q.a)))
}

// isShown tells whether a word is the number of a rune that may stand on the console.
func isShown(word uint32) bool {
	// A word that is too large for a rune becomes one below 0, which is none.
	isRune := utf8.ValidRune(rune(word))
	return word == '\n' || isRune && word >= ' ' && (word < 0x7F || word > 0x9F)
}

func (h *Host) putInt(q asked) api.Reply { return h.put(figure.Signed(q.a)) }

func (h *Host) putHex(q asked) api.Reply { return h.put(figure.Hex(q.a)) }

func (h *Host) putFloat(q asked) api.Reply { return h.put(figure.Print32(q.a)) }

func (h *Host) clearConsole(asked) api.Reply {
	count := len(h.console)
	h.console = nil
	return told(uint32(count))
}

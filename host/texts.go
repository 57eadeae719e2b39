package host

import (
	"playpen/api"
	"playpen/figure"
	"playpen/text"
)

func (*Host) countBytes(q asked) api.Reply { return told(uint32(len(q.text()))) }

func (*Host) countRunes(q asked) api.Reply {
	count := uint32(0)
	for range text.Runes(string(q.text())) {
		count++
	}
	return told(count)
}

func (*Host) parseWord(q asked) api.Reply {
	word, _, err := figure.Word(string(q.text()))
	return found(q.b, word, err)
}

func (*Host) parseFloat(q asked) api.Reply {
	word, _, err := figure.Read32(string(q.text()))
	return found(q.b, word, err)
}

func (h *Host) getVar(q asked) api.Reply {
	word, err := h.Get(string(q.text()))
	return found(q.b, word, err)
}

func (h *Host) setVar(q asked) api.Reply {
	if h.Set(string(q.text()), q.b) != api.OK {
		return told(0)
	}
	return told(1)
}

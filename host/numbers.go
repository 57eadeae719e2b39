package host

import (
	"math"

	"playpen/api"
	"playpen/single"
)

func (h *Host) setSeed(q asked) api.Reply {
	h.seed = sown(uint64(q.a))
	return told(0)
}

func (h *Host) random(q asked) api.Reply {
	h.seed = goneOn(h.seed)
	upper := uint32(h.seed >> 32)
	if q.a == 0 {
		return told(upper)
	}
	return told(upper % q.a)
}

// goneOn gives the seed that follows.
func goneOn(x uint64) uint64 {
	x ^= x << 13
	x ^= x >> 7
	x ^= x << 17
	return x
}

func (h *Host) tellClock(asked) api.Reply { return told(h.clock) }

func (*Host) root(q asked) api.Reply { return told(single.Root(q.a)) }

func (*Host) floor(q asked) api.Reply {
	// As a binary64 the number and its floor are just the same, so the way there and back rounds nothing.
	whole := math.Floor(math.Float64frombits(single.Wide(q.a)))
	return told(single.Narrow(math.Float64bits(whole)))
}

func (*Host) withoutSign(q asked) api.Reply {
	parts := single.Split(q.a)
	parts.Minus = false
	// What Split gave has a word without its sign too.
	word, _ := single.Join(parts)
	return told(word)
}

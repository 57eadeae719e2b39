package gate

import (
	"playpen/api"
	"playpen/mem"
)

// Fits tells whether a reply may be.
func Fits(r api.Reply) bool {
	if len(r.Writes) > api.MaxWrites {
		return false
	}
	for _, write := range r.Writes {
		if len(write.Bytes) > api.MaxWrite {
			return false
		}
	}
	return true
}

// Apply stores a reply's writes in the memory.
func (g *Gate) Apply(m *mem.Memory, r api.Reply) api.Errno {
	if !g.isMade() || !isMemory(m) {
		return api.ErrNil
	}
	if !Fits(r) {
		return api.ErrReply
	}
	for _, write := range r.Writes {
		// The memory refuses none of them: what fits is shorter than its greatest window.
		m.Write(write.At, write.Bytes)
	}
	return api.OK
}

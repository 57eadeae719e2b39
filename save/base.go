package save

import (
	"playpen/api"
	"playpen/little"
	"playpen/step"
	"playpen/verify"
)

// base is what a save goes on from. Its functions are asked only when a save is known to want them.
type base struct {
	kind uint32        // the word that says which of the two kinds of save it makes
	mark func() uint32 // the word that stands beside it
	data func() []byte // what the runs lead from; not to be changed
}

// freshBase is the base of whole saves.
func freshBase(m *verify.Module) base {
	return base{
		kind: wholeKind,
		mark: func() uint32 { return 0 },
		data: func() []byte {
			fresh, _ := step.Fresh(m)
			return fresh.Data
		},
	}
}

// stateBase is the base of saves that go on from a state, which fits.
func stateBase(m *verify.Module, from api.State) base {
	return base{
		kind: deltaKind,
		mark: func() uint32 { return markOf(m, from) },
		data: func() []byte { return from.Data },
	}
}

// markOf gives the mark of a state that fits.
func markOf(m *verify.Module, s api.State) uint32 {
	return little.Sum(stateBytes(s, freshBase(m).data()))
}

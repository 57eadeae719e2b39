package save

import (
	"slices"

	"playpen/api"
	"playpen/little"
	"playpen/verify"
)

// What a save begins with, and the one version that there is.
const (
	opening = "SAV!"
	version = 1
)

// The kinds of save.
const (
	wholeKind = iota
	deltaKind
)

// The places of a save's head. From statePlace on stands what is the state's own.
const (
	versionPlace = 4
	modulePlace  = 8
	kindPlace    = 16
	basePlace    = 20
	sumPlace     = 24
	statePlace   = 28
	lifePlace    = 28
	faultPlace   = 29
	opsPlace     = 30
	pcPlace      = 32
	spPlace      = 36
	valuePlace   = 40
	runsPlace    = 44
	headSize     = 48
)

// written gives the save of a state that fits and goes on from a base.
func written(m *verify.Module, from base, s api.State) []byte {
	b := slices.Concat(
		[]byte(opening),
		little.Put[uint32](version),
		little.Put(m.Digest()),
		little.Put(from.kind, from.mark(), 0),
		stateBytes(s, from.data()),
	)
	// The place of the sum is there.
	sealed, _ := little.With(b, sumPlace, sumOf(b))
	return sealed
}

// stateBytes gives what a save has from statePlace on, with runs that lead from other data, as many as the state's.
func stateBytes(s api.State, from []byte) []byte {
	runs, _ := little.Runs(from, s.Data)
	b := slices.Concat(
		little.Put(uint8(s.Life), uint8(s.Fault)),
		little.Put(uint16(len(s.Ops))),
		little.Put(s.PC, s.SP, s.Value, uint32(len(runs))),
		little.Put(s.Ops...),
	)
	for _, run := range runs {
		b = append(b, little.Put(run.At, uint32(len(run.Bytes)))...)
		b = append(b, run.Bytes...)
	}
	return b
}

// sumOf gives the sum that a save must have: that of its bytes with noughts where the sum stands.
func sumOf(b []byte) uint32 {
	bare, _ := little.With(b, sumPlace, uint32(0))
	return little.Sum(bare)
}

package watch

import (
	"slices"

	"playpen/api"
)

// trail holds the frames of the calls that have not returned, the outermost first.
type trail []api.Frame

// trailFrom gives the trail of a run that begins in a procedure.
func trailFrom(begin uint32) trail {
	return trail{{Begin: begin}}
}

// follow makes the trail that behind an instruction: one is the result of a Go of it alone.
func (t *trail) follow(in api.Instr, from uint32, one api.Result) {
	switch {
	case one.End == api.EndFault:
	case in.Op == api.OpCall && len(one.Events) == 0:
		*t = append(*t, api.Frame{Begin: one.At, From: from})
	case in.Op == api.OpLeave && len(*t) > 0:
		*t = (*t)[:len(*t)-1]
	}
}

// told gives the frames, the innermost first.
func (t trail) told() []api.Frame {
	all := slices.Clone(t)
	slices.Reverse(all)
	return all
}

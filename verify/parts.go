package verify

import (
	"slices"

	"playpen/api"
	"playpen/procs"
)

// notReached stands for the depth of an instruction that is not reached.
const notReached = -1

// procedures is what a Module knows of its procedures.
type procedures struct {
	found *procs.Procs
	list  []api.Proc // with their needs, which found does not know
}

// withNeeds gives the procedures that were found, each with its need.
func withNeeds(found *procs.Procs, needs []int) procedures {
	p := procedures{found: found}
	for i, proc := range found.All() {
		proc.Need = needs[i]
		p.list = append(p.list, proc)
	}
	return p
}

// all gives the procedures, rising.
func (p *procedures) all() []api.Proc {
	return slices.Clone(p.list)
}

// around gives the procedure in which an instruction lies.
func (p *procedures) around(i uint32) (api.Proc, bool) {
	number := p.found.Of(i)
	if number < 0 {
		return api.Proc{}, false
	}
	return p.list[number], true
}

// begins tells whether a procedure begins there.
func (p *procedures) begins(i uint32) bool {
	return p.found.Begins(i)
}

// legal tells whether a jump at from may go to an instruction.
func (p *procedures) legal(from, to uint32) bool {
	return p.found.Legal(from, to)
}

// depths is what a Module knows of the operand stack.
type depths struct {
	ahead []int // of each instruction
}

// depth tells an instruction's depth.
func (d *depths) depth(i uint32) int {
	if i >= uint32(len(d.ahead)) {
		return notReached
	}
	return d.ahead[i]
}

// reached tells whether an instruction is reached.
func (d *depths) reached(i uint32) bool {
	return d.depth(i) != notReached
}

package flow

import (
	"playpen/api"
	"playpen/procs"
)

// blocks cuts the code at its leaders; what the blocks' Next are is left out.
func (c *chart) blocks(depths []int) []api.Block {
	var blocks []api.Block
	for begin := range c.leaders().All() {
		if last := len(blocks) - 1; last >= 0 {
			blocks[last].End = begin
		}
		blocks = append(blocks, api.Block{Begin: begin, End: c.end(), Depth: depths[begin]})
	}
	return blocks
}

// leaders gives the instructions with which blocks begin.
func (c *chart) leaders() *procs.Set[uint32] {
	// Code that Find takes is shorter than the greatest bound of a set. What lies behind the code's end is not put in.
	leaders, _ := procs.NewSet[uint32](len(c.code))
	for at := range c.end() {
		switch c.info(at).Kind {
		case api.KindEnter:
			leaders.Add(at)
		case api.KindBranch, api.KindGoto:
			leaders.Add(c.code[at].Arg)
			leaders.Add(at + 1)
		case api.KindJump, api.KindCall, api.KindLeave, api.KindStop:
			leaders.Add(at + 1)
		}
	}
	for _, targets := range c.targets {
		for _, to := range targets {
			leaders.Add(to)
		}
	}
	return leaders
}

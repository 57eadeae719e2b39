package flow

import "playpen/api"

// The knots between which links lie: the blocks by their numbers; behind them one for each procedure, through which all its jumps go; at last the outside, from which all procedures are come to. Without the knots of the jumps there might be as many links as the square of the code's length.

// links gives of each knot those that it leads to.
func (c *chart) links(blocks []api.Block) [][]int {
	outside := len(blocks) + c.procs.Count()
	links := make([][]int, outside+1)
	numbers := make([]int, len(c.code)) // of the blocks, by their first instructions
	for b, block := range blocks {
		numbers[block.Begin] = b
		if c.procs.Begins(block.Begin) {
			links[outside] = append(links[outside], b)
		}
	}
	for b, block := range blocks {
		last, from := block.End-1, b
		if c.info(last).Kind == api.KindJump {
			from = len(blocks) + c.procs.Of(last)
			links[b] = append(links[b], from)
			if len(links[from]) > 0 {
				// An earlier jump of the procedure has laid the targets in.
				continue
			}
		}
		for _, to := range c.ways(last, block.End) {
			links[from] = append(links[from], numbers[to])
		}
	}
	return links
}

// headsOf gives the heads of the blocks, which are the first knots; count is how many there are.
func headsOf(links [][]int, count int) []int {
	above := grown(links).heads(len(links))
	heads := make([]int, count)
	for b := range heads {
		head := above[b]
		if head >= count {
			// A knot of jumps and the outside are no blocks; a block lies above the one, nothing above the other.
			head = above[head]
		}
		heads[b] = head
	}
	return heads
}

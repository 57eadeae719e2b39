package flow

import "slices"

// tree holds the knots that are come to from the last one, in the order of a walk that always goes on from the knot that it came to last. Only then does every way from a place to a higher one go through a place that has both below it in the tree, or is one of them; by that heads can be told from lows (Lengauer and Tarjan).
type tree struct {
	knots   []int   // by place
	parents []int   // by place: the place from which the walk came; the first one's is its own
	ins     [][]int // by place: those that lead there
}

// link is a step of a walk from knot to knot.
type link struct {
	from int
	to   int
}

// grown gives the tree of a walk from the last knot on.
func grown(links [][]int) *tree {
	t := &tree{}
	places := slices.Repeat([]int{-1}, len(links))
	root := len(links) - 1
	steps := []link{{root, root}}
	for len(steps) > 0 {
		last := len(steps) - 1
		step := steps[last]
		steps = steps[:last]
		if places[step.to] >= 0 {
			continue
		}
		places[step.to] = len(t.knots)
		t.knots = append(t.knots, step.to)
		t.parents = append(t.parents, places[step.from])
		for _, to := range links[step.to] {
			steps = append(steps, link{step.to, to})
		}
	}
	t.ins = make([][]int, len(t.knots))
	for place, knot := range t.knots {
		for _, to := range links[knot] {
			t.ins[places[to]] = append(t.ins[places[to]], place)
		}
	}
	return t
}

// heads gives for each of so many knots its head: the nearest other one that lies on every way to it from the first place. That one, and knots that are not come to, have none (-1).
func (t *tree) heads(count int) []int {
	lows := t.lows()
	above := make([]int, len(t.knots))
	heads := slices.Repeat([]int{-1}, count)
	for place := 1; place < len(t.knots); place++ {
		head := t.parents[place]
		// What is higher than the low can be gone round.
		for head > lows[place] {
			head = above[head]
		}
		above[place] = head
		heads[t.knots[place]] = t.knots[head]
	}
	return heads
}

// lows gives for each place the lowest one from which a way leads to it whose other places are all higher than it.
func (t *tree) lows() []int {
	lows := slices.Clone(t.parents)
	c := climber{up: slices.Clone(t.parents), least: make([]int, len(t.knots))}
	for place := len(t.knots) - 1; place > 0; place-- {
		for _, from := range t.ins[place] {
			lows[place] = min(lows[place], c.lowest(from, place))
		}
		c.least[place] = lows[place]
	}
	return lows
}

// climber goes up the tree, and makes each way that it went shorter for the next time.
type climber struct {
	up    []int // of each place one above it
	least []int // of each place the least of the lows from it on up to that one, which is left out
}

// lowest tells the least of the lows of a place and of those above it, as far as they are higher than a bound; a place that is not higher stands for itself.
func (c *climber) lowest(place int, bound int) int {
	if place <= bound {
		return place
	}
	if up := c.up[place]; up > bound {
		c.least[place] = min(c.least[place], c.lowest(up, bound))
		c.up[place] = c.up[up]
	}
	return c.least[place]
}

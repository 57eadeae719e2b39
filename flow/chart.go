package flow

import (
	"iter"

	"playpen/api"
	"playpen/isa"
	"playpen/procs"
)

// chart is code that procs' Find takes, with what was found of it.
type chart struct {
	code    []api.Instr
	procs   *procs.Procs
	targets [][]uint32 // of each procedure the jumps that lie in it
}

// charted gives the chart of code, or Find's error and its place. The code is not copied.
func charted(code []api.Instr, jumps []uint32) (*chart, int, api.Errno) {
	found, at, err := procs.Find(code, jumps, nil)
	if err != api.OK {
		return nil, at, err
	}
	c := &chart{code: code, procs: found}
	for i := range found.All() {
		c.targets = append(c.targets, found.Targets(i))
	}
	return c, 0, api.OK
}

// end tells the index behind the last instruction; code that Find takes is never so long that a word would not do.
func (c *chart) end() uint32 {
	return uint32(len(c.code))
}

// info tells the row of an instruction's operation.
func (c *chart) info(at uint32) api.OpInfo {
	info, _ := isa.Info(c.code[at].Op)
	return info
}

// next gives the Next of an instruction, rising. The list may be one that the chart keeps, since a procedure with many jumps and targets would else have one of all targets for each jump.
func (c *chart) next(at uint32) []uint32 {
	switch c.info(at).Kind {
	case api.KindPlain, api.KindEnter, api.KindCall:
		return []uint32{at + 1}
	case api.KindBranch:
		return both(at+1, c.code[at].Arg)
	case api.KindGoto:
		return []uint32{c.code[at].Arg}
	case api.KindJump:
		return c.targets[c.procs.Of(at)]
	}
	return nil
}

// both gives two indices, rising, each once.
func both(x uint32, y uint32) []uint32 {
	if x == y {
		return []uint32{x}
	}
	return []uint32{min(x, y), max(x, y)}
}

// ways goes through all pairs of an instruction, from first to end - 1, and one of its Next, rising by the first, then by the second.
func (c *chart) ways(first uint32, end uint32) iter.Seq2[uint32, uint32] {
	return func(yield func(uint32, uint32) bool) {
		for at := first; at < end; at++ {
			for _, to := range c.next(at) {
				if !yield(at, to) {
					return
				}
			}
		}
	}
}

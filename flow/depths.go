package flow

import (
	"container/heap"
	"slices"

	"playpen/api"
)

// notReached stands for the depth of an instruction to which no walk has come.
const notReached = -1

// waiting is a heap of the instructions that wait, the lowest index on top.
type waiting []uint32

func (w waiting) Len() int { return len(w) }

func (w waiting) Less(i, j int) bool { return w[i] < w[j] }

func (w waiting) Swap(i, j int) { w[i], w[j] = w[j], w[i] }

// Push is called by package heap alone.
func (w *waiting) Push(at any) { *w = append(*w, at.(uint32)) }

// Pop is called by package heap alone.
func (w *waiting) Pop() any {
	last := len(*w) - 1
	at := (*w)[last]
	*w = (*w)[:last]
	return at
}

// depths gives the depths of the instructions and the needs of the procedures, or the first fault of the walks and its place.
func (c *chart) depths() ([]int, []int, int, api.Errno) {
	depths := slices.Repeat([]int{notReached}, len(c.code))
	var needs []int
	for _, proc := range c.procs.All() {
		need, at, err := c.walk(proc.Begin, depths)
		if err != api.OK {
			return nil, nil, int(at), err
		}
		needs = append(needs, need)
	}
	return depths, needs, 0, api.OK
}

// walk lays down the depths of the procedure that begins at an index, and tells its need, or the fault of the walk and its place.
func (c *chart) walk(begin uint32, depths []int) (need int, at uint32, err api.Errno) {
	jumped := notReached // the depth that the jumps taken up to now leave
	depths[begin] = 0
	waits := &waiting{begin}
wait:
	for waits.Len() > 0 {
		at = heap.Pop(waits).(uint32)
		info := c.info(at)
		var rest int
		if rest, err = taken(info, depths[at]); err != api.OK {
			break wait
		}
		need = max(need, depths[at], rest)
		if info.Kind == api.KindJump {
			// All jumps of a procedure have the same Next: behind the first one nothing is left to do.
			if rest == jumped {
				continue
			}
			jumped = rest
		}
		for _, to := range c.ways(at, at+1) {
			switch depths[to] {
			case notReached:
				depths[to] = rest
				heap.Push(waits, to)
			case rest:
			default:
				err = api.ErrMeet
				break wait
			}
		}
	}
	if err != api.OK {
		return 0, at, err
	}
	return need, 0, api.OK
}

// taken tells the depth behind an instruction that is taken at a depth, or why it may not be taken there.
func taken(info api.OpInfo, depth int) (int, api.Errno) {
	rest := depth - info.Takes + info.Gives
	switch {
	case depth < info.Takes:
		return 0, api.ErrUnder
	case rest > api.MaxOps:
		return 0, api.ErrOver
	case info.Kind == api.KindLeave && depth != 1:
		return 0, api.ErrLeave
	}
	return rest, api.OK
}

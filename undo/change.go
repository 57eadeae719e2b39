package undo

import (
	"slices"

	"playpen/api"
)

// change is what one instruction has changed: a way from the place behind it back to the one ahead of it, and one on again.
type change struct {
	back  func(p *place)
	again func(p *place)
}

// side is what a state has on one side of an instruction and may not have on the other one.
type side struct {
	state  api.State // but for its lists
	same   int       // how many words of the operand stack, from the lowest on, are the same on both sides
	words  []uint32  // those above them
	pieces []api.Write
}

// changeOf gives the change of an instruction that has written these spans and made these events.
func changeOf(ahead, behind api.State, spans []api.Span, made []api.Event) change {
	same := alike(ahead.Ops, behind.Ops)
	before, after := sideOf(ahead, same, spans), sideOf(behind, same, spans)
	return change{
		back: func(p *place) {
			before.lay(&p.state)
			p.events = slices.Delete(p.events, len(p.events)-len(made), len(p.events))
		},
		again: func(p *place) {
			after.lay(&p.state)
			p.events = append(p.events, made...)
		},
	}
}

// sideOf gives the side of a state, without a part in its lists.
func sideOf(s api.State, same int, spans []api.Span) side {
	one := side{state: s, same: same}
	// Appended, not cloned: a clone of no words may hold on to the list.
	one.words = append(one.words, s.Ops[same:]...)
	for _, span := range spans {
		one.pieces = append(one.pieces, api.Write{At: span.At, Bytes: slices.Clone(s.Data[span.At : span.At+span.Len])})
	}
	one.state.Ops, one.state.Data = nil, nil
	return one
}

// lay turns the state on the other side into the one on this side.
func (one *side) lay(s *api.State) {
	ops, data := append(s.Ops[:one.same], one.words...), s.Data
	for _, piece := range one.pieces {
		copy(data[piece.At:], piece.Bytes)
	}
	*s = one.state
	s.Ops, s.Data = ops, data
}

// alike tells how many words two operand stacks have in common, from the lowest on.
func alike(a, b []uint32) int {
	count := 0
	for count < min(len(a), len(b)) && a[count] == b[count] {
		count++
	}
	return count
}

// written gives the spans that were written; none goes over the segment's end.
func written(touched []api.Touch) []api.Span {
	var spans []api.Span
	for _, one := range touched {
		if !one.Write {
			continue
		}
		if last := len(spans) - 1; last >= 0 && spans[last].At+spans[last].Len == one.At {
			spans[last].Len++
		} else {
			spans = append(spans, api.Span{At: one.At, Len: 1})
		}
	}
	return spans
}

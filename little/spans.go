package little

import (
	"bytes"
	"cmp"
	"math"
	"slices"
	"sort"

	"playpen/api"
)

// Within tells whether a span lies within so many bytes.
func Within(s api.Span, total uint32) bool {
	return end(s) <= uint64(total)
}

// Lap tells whether two spans have a byte in common.
func Lap(a api.Span, b api.Span) bool {
	return a.Len > 0 && b.Len > 0 && uint64(a.At) < end(b) && uint64(b.At) < end(a)
}

// Apart tells whether no two spans lap; else the first one that laps over one ahead of it, and the first one over which it does.
func Apart(spans []api.Span) (int, int, bool) {
	// Where two of the first spans lap, two of the first and one more do: so the first one that laps is found by halving, and a long list needs no look at every pair.
	i := sort.Search(len(spans), func(i int) bool { return anyLap(spans[:i+1]) })
	if i == len(spans) {
		return 0, 0, true
	}
	j := slices.IndexFunc(spans[:i], func(s api.Span) bool { return Lap(s, spans[i]) })
	return i, j, false
}

// Lay gives spans of these lengths, one behind the other from a place on.
func Lay(first uint32, lengths []uint32) ([]api.Span, api.Errno) {
	spans := make([]api.Span, 0, len(lengths))
	next := uint64(first)
	for _, length := range lengths {
		spans = append(spans, api.Span{At: uint32(next), Len: length})
		next += uint64(length)
		if next > math.MaxUint32 {
			return nil, api.ErrEnd
		}
	}
	return spans, api.OK
}

// Cut gives the bytes of a span.
func Cut(b []byte, s api.Span) ([]byte, api.Errno) {
	if end(s) > uint64(len(b)) {
		return nil, api.ErrEnd
	}
	return bytes.Clone(b[s.At:end(s)]), api.OK
}

// end gives the place behind a span, which may be one that no word can tell.
func end(s api.Span) uint64 {
	return uint64(s.At) + uint64(s.Len)
}

// anyLap tells whether two of the spans lap. Among spans with bytes that rise, two neighbours do if any two do.
func anyLap(spans []api.Span) bool {
	rising := slices.DeleteFunc(slices.Clone(spans), func(s api.Span) bool { return s.Len == 0 })
	slices.SortFunc(rising, func(a, b api.Span) int { return cmp.Compare(a.At, b.At) })
	for i := 1; i < len(rising); i++ {
		if Lap(rising[i-1], rising[i]) {
			return true
		}
	}
	return false
}

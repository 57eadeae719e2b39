package little_test

import (
	"bytes"
	"math/big"
	"slices"
	"testing"

	"playpen/api"
	"playpen/little"
)

// together gives a sum of words as a whole number.
func together(numbers ...uint32) *big.Int {
	sum := new(big.Int)
	for _, x := range numbers {
		sum.Add(sum, new(big.Int).SetUint64(uint64(x)))
	}
	return sum
}

// atMost tells whether words together are at most another.
func atMost(total uint32, numbers ...uint32) bool {
	return together(numbers...).Cmp(together(total)) <= 0
}

// P2.5: the document's examples, and every span of edges in every total of them.
func TestWithin(t *testing.T) {
	for _, x := range []struct {
		s     api.Span
		total uint32
		want  bool
	}{
		{span(10, 5), 15, true}, {span(10, 6), 15, false}, {span(16, 0), 15, false}, {span(15, 0), 15, true},
		{span(1<<32-1, 2), 1<<32 - 1, false}, {span(1<<32-1, 1), 1<<32 - 1, false}, {span(1<<32-1, 0), 1<<32 - 1, true},
		{span(0, 1<<32-1), 1<<32 - 1, true}, {span(0, 0), 0, true}, {span(0, 1), 0, false}, {span(1<<32-1, 1), 0, false}, {span(1<<31, 1<<31), 0, false},
	} {
		if got := little.Within(x.s, x.total); got != x.want {
			t.Errorf("Within(%v, %d): %t", x.s, x.total, got)
		}
	}
	for _, s := range spansOf(words()) {
		for _, total := range words() {
			if got := little.Within(s, total); got != atMost(total, s.At, s.Len) {
				t.Errorf("Within(%v, %d): %t", s, total, got)
			}
		}
	}
}

// byteInBoth tells whether a byte belongs to both: the later of the two first bytes would be one.
func byteInBoth(a, b api.Span) bool {
	first := max(uint64(a.At), uint64(b.At))
	has := func(s api.Span) bool { return uint64(s.At) <= first && first-uint64(s.At) < uint64(s.Len) }
	return has(a) && has(b)
}

// P2.6: the document's examples, and every pair of spans of edges, either way round.
func TestLap(t *testing.T) {
	for _, x := range []struct {
		a, b api.Span
		want bool
	}{
		{span(0, 4), span(3, 1), true}, {span(0, 4), span(4, 1), false}, {span(2, 0), span(0, 9), false},
		{span(0, 9), span(2, 0), false}, {span(2, 0), span(2, 0), false}, {span(2, 1), span(2, 1), true}, {span(2, 3), span(0, 9), true},
		{span(1<<32-1, 9), span(1<<32-1, 1), true}, {span(1<<32-1, 9), span(0, 5), false}, {span(1<<32-2, 1<<32-1), span(1<<32-1, 1), true},
	} {
		if got := little.Lap(x.a, x.b); got != x.want {
			t.Errorf("Lap(%v, %v): %t", x.a, x.b, got)
		}
	}
	all := spansOf(words())
	for _, a := range all {
		for _, b := range all {
			if got := little.Lap(a, b); got != byteInBoth(a, b) {
				t.Errorf("Lap(%v, %v): %t", a, b, got)
			}
		}
	}
}

// firstLap gives what Apart answers, by a look at each pair.
func firstLap(spans []api.Span) (int, int, bool) {
	for i := range spans {
		for j := range i {
			if byteInBoth(spans[i], spans[j]) {
				return i, j, false
			}
		}
	}
	return 0, 0, true
}

func checkApart(t *testing.T, spans []api.Span) {
	t.Helper()
	i, j, ok := little.Apart(spans)
	if wantI, wantJ, want := firstLap(spans); i != wantI || j != wantJ || ok != want {
		t.Fatalf("Apart(%v): %d, %d, %t; want %d, %d, %t", spans, i, j, ok, wantI, wantJ, want)
	}
}

// P2.7: the document's example and edges.
func TestApartExamples(t *testing.T) {
	for _, x := range []struct {
		spans []api.Span
		i, j  int
		ok    bool
	}{
		{[]api.Span{span(0, 4), span(8, 4), span(4, 5), span(0, 1)}, 2, 1, false},
		{nil, 0, 0, true},
		{[]api.Span{span(1<<32-1, 1<<32-1)}, 0, 0, true},
		{[]api.Span{span(3, 2), span(3, 2)}, 1, 0, false},
		{[]api.Span{span(3, 0), span(3, 0), span(0, 9), span(5, 0)}, 0, 0, true},
		{[]api.Span{span(5, 1), span(0, 9), span(5, 1)}, 1, 0, false},
		{[]api.Span{span(7, 1), span(3, 1), span(0, 9)}, 2, 0, false},
		{[]api.Span{span(7, 0), span(3, 1), span(0, 9)}, 2, 1, false},
		{[]api.Span{span(1<<32-1, 9), span(0, 5), span(1<<32-1, 1)}, 2, 0, false},
	} {
		if i, j, ok := little.Apart(x.spans); i != x.i || j != x.j || ok != x.ok {
			t.Errorf("Apart(%v): %d, %d, %t", x.spans, i, j, ok)
		}
	}
}

// P2.7: every short list of small spans, and of spans at the end of 32 bits.
func TestApartAll(t *testing.T) {
	eachList(spansOf([]uint32{0, 1, 2, 3}), 4, func(spans []api.Span) { checkApart(t, spans) })
	eachList(spansOf([]uint32{0, 1, 1<<32 - 2, 1<<32 - 1}), 3, func(spans []api.Span) { checkApart(t, spans) })
}

// P2.7: long lists, in which one span laps over another at every pair of places.
func TestApartLong(t *testing.T) {
	var spans []api.Span
	for i := range uint32(24) {
		spans = append(spans, span(i*7%24*10, 10))
	}
	checkApart(t, spans)
	for i := range spans {
		for j := range spans {
			changed := slices.Clone(spans)
			changed[i] = span(spans[j].At+3, 2)
			checkApart(t, changed)
			changed[i] = span(spans[j].At, 20)
			checkApart(t, changed)
		}
	}
}

// R1: a list of very many spans is looked at in a moment.
func TestApartManySpans(t *testing.T) {
	var spans []api.Span
	for i := range uint32(1 << 17) {
		spans = append(spans, span(i*2654435761%(1<<17)*8, 8))
	}
	if i, j, ok := little.Apart(spans); i != 0 || j != 0 || !ok {
		t.Errorf("Apart of many: %d, %d, %t", i, j, ok)
	}
	spans[100000].At = spans[77].At + 1
	if i, _, ok := little.Apart(spans); i > 100000 || ok {
		t.Errorf("Apart of many, two of which lap: %d, %t", i, ok)
	}
}

// P2.8: the document's example, and every short list of lengths at the edges.
func TestLay(t *testing.T) {
	got, err := little.Lay(64, []uint32{10, 0, 3})
	if !slices.Equal(got, []api.Span{span(64, 10), span(74, 0), span(74, 3)}) || err != api.OK {
		t.Errorf("Lay: %v, %d", got, err)
	}
	for _, first := range words() {
		eachList(words(), 3, func(lengths []uint32) { checkLay(t, first, lengths) })
	}
}

func checkLay(t *testing.T, first uint32, lengths []uint32) {
	t.Helper()
	got, err := little.Lay(first, lengths)
	if !atMost(1<<32-1, append([]uint32{first}, lengths...)...) {
		if len(got) != 0 || err != api.ErrEnd {
			t.Errorf("Lay(%d, %v): %v, %d", first, lengths, got, err)
		}
		return
	}
	if len(got) != len(lengths) || err != api.OK {
		t.Fatalf("Lay(%d, %v): %v, %d", first, lengths, got, err)
	}
	at := first
	for i, s := range got {
		if s != span(at, lengths[i]) {
			t.Errorf("Lay(%d, %v): %v", first, lengths, got)
		}
		at += s.Len
	}
}

// P2.8: lengths whose sum would be small again, if it wrapped round at 2^32, are refused.
func TestLayNeverWraps(t *testing.T) {
	lengths := slices.Repeat([]uint32{1<<32 - 1, 1}, 9)
	if got, err := little.Lay(0, lengths); len(got) != 0 || err != api.ErrEnd {
		t.Errorf("Lay: %v, %d", got, err)
	}
	if got, err := little.Lay(0, slices.Repeat([]uint32{1 << 31}, 2)); len(got) != 0 || err != api.ErrEnd {
		t.Errorf("Lay: %v, %d", got, err)
	}
}

// P2.9: every span of edges out of every short list.
func TestCut(t *testing.T) {
	for count := range 8 {
		b := rising(count)
		for _, s := range spansOf(append(words(), 6, 7, 8)) {
			got, err := little.Cut(b, s)
			if !atMost(uint32(count), s.At, s.Len) {
				if len(got) != 0 || err != api.ErrEnd {
					t.Errorf("Cut(%v, %v): %v, %d", b, s, got, err)
				}
				continue
			}
			if !bytes.Equal(got, b[s.At:][:s.Len]) || err != api.OK {
				t.Errorf("Cut(%v, %v): %v, %d", b, s, got, err)
			}
		}
	}
	if got, err := little.Cut(nil, span(0, 0)); len(got) != 0 || err != api.OK {
		t.Errorf("Cut of nothing: %v, %d", got, err)
	}
}

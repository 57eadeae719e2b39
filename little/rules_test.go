package little_test

import (
	"bytes"
	"hash/adler32"
	"slices"
	"testing"

	"playpen/api"
	"playpen/little"
)

// R3: arguments stay as they are, the spare room of their lists too.
func TestArgumentsStay(t *testing.T) {
	b, other := rising(16), rising(16)
	other[2], other[3] = 0, 0
	spans := []api.Span{span(8, 4), span(3, 0), span(0, 2), span(1, 9), span(7, 7)}
	lengths := []uint32{5, 0, 1, 99}
	runs := []api.Write{run(0, 9), run(3, 7, 8), run(4, 4)}
	runs[0].Bytes = append(make([]byte, 0, 8), 9)
	keptB, keptOther, keptSpans, keptLengths, keptRuns := slices.Clone(b), slices.Clone(other), slices.Clone(spans), slices.Clone(lengths), cloneRuns(runs)
	little.Put(lengths[:3]...)
	little.All[uint32](b[:8])
	little.At[uint16](b[:8], 3)
	little.With[uint64](b[:8], 0, 0)
	little.Apart(spans[:3])
	little.Apart(spans[:4])
	little.Lay(3, lengths[:3])
	little.Cut(b[:8], span(2, 6))
	little.Runs(b[:8], other[:8])
	little.Mend(b[:8], runs[:2])
	little.Mend(b[:8], runs)
	little.Sum(b[:8])
	if !bytes.Equal(b, keptB) || !bytes.Equal(other, keptOther) {
		t.Errorf("bytes became %v, %v", b, other)
	}
	if !slices.Equal(spans, keptSpans) || !slices.Equal(lengths, keptLengths) {
		t.Errorf("lists became %v, %v", spans, lengths)
	}
	if !sameRuns(runs, keptRuns) || !bytes.Equal(runs[0].Bytes[:8], []byte{9, 0, 0, 0, 0, 0, 0, 0}) {
		t.Errorf("runs became %v", runs)
	}
}

// R3: what is answered is memory of its own: overwriting it changes no argument, and overwriting an argument does not change it.
func TestAnswersAreTheirOwn(t *testing.T) {
	answers := map[string]func(b []byte) []byte{
		"Put":               func(b []byte) []byte { return little.Put(b...) },
		"All":               func(b []byte) []byte { got, _ := little.All[uint8](b); return got },
		"With":              func(b []byte) []byte { got, _ := little.With(b, 2, b[2]); return got },
		"Cut of all":        func(b []byte) []byte { got, _ := little.Cut(b, span(0, uint32(len(b)))); return got },
		"Mend without runs": func(b []byte) []byte { got, _ := little.Mend(b, nil); return got },
		"Mend with one run": func(b []byte) []byte { got, _ := little.Mend(b, []api.Write{run(3, b[3])}); return got },
		"Mend of other bytes": func(b []byte) []byte {
			got, _ := little.Mend(make([]byte, len(b)), []api.Write{{Bytes: b}})
			return got
		},
		"Runs from noughts": func(b []byte) []byte { got, _ := little.Runs(make([]byte, len(b)), b); return got[0].Bytes },
	}
	for name, answer := range answers {
		room := rising(32)
		b := room[:8]
		got := answer(b)
		if !bytes.Equal(got, b) {
			t.Errorf("%s: %v", name, got)
		}
		overwrite(got)
		if !bytes.Equal(room, rising(32)) {
			t.Errorf("%s hands out a part of its argument: %v", name, room)
		}
		got = answer(b)
		overwrite(room)
		if !bytes.Equal(got, rising(8)) {
			t.Errorf("%s keeps a part of its argument: %v", name, got)
		}
	}
}

// R3: the runs of one answer share nothing, spare room too, nor do two answers.
func TestRunsShareNothing(t *testing.T) {
	from, to := make([]byte, 40), make([]byte, 40)
	for i := range to {
		to[i] = byte(i%5) * byte(i+1)
	}
	first, _ := little.Runs(from, to)
	second, _ := little.Runs(from, to)
	want := cloneRuns(first)
	for i := range first {
		overwrite(first[i].Bytes)
		for k := i + 1; k < len(first); k++ {
			if !bytes.Equal(first[k].Bytes, want[k].Bytes) {
				t.Fatalf("run %d shares memory with run %d", k, i)
			}
		}
	}
	if !sameRuns(second, want) {
		t.Errorf("two answers share memory: %v", second)
	}
}

// R3: spans that were answered are no part of another answer.
func TestLaySharesNothing(t *testing.T) {
	first, _ := little.Lay(5, []uint32{1, 2, 3})
	second, _ := little.Lay(5, []uint32{1, 2, 3})
	clear(first[:cap(first)])
	if !slices.Equal(second, []api.Span{span(5, 1), span(6, 2), span(8, 3)}) {
		t.Errorf("two answers share memory: %v", second)
	}
}

// R1: no call panics at whatever it is given, and what follows holds.
func FuzzEveryCall(f *testing.F) {
	f.Add([]byte{1, 2, 3, 4, 5}, []byte{1, 9, 9, 4, 6}, 1, uint32(2), uint32(3))
	f.Add([]byte{}, []byte{0}, -1, uint32(1<<32-1), uint32(1<<32-1))
	f.Fuzz(func(t *testing.T, a, b []byte, at int, place, length uint32) {
		fuzzNumbers[uint8](t, a, at)
		fuzzNumbers[uint16](t, a, at)
		fuzzNumbers[uint32](t, a, at)
		fuzzNumbers[uint64](t, a, at)
		if got, want := little.Sum(a), adler32.Checksum(a); got != want {
			t.Fatalf("Sum(%v): %#x, want %#x", a, got, want)
		}
		if got, want := little.Join(little.Sum(a), little.Sum(b), len(b)), little.Sum(slices.Concat(a, b)); got != want {
			t.Fatalf("Join of %v, %v: %#x, want %#x", a, b, got, want)
		}
		if got, want := little.Join(place, length, at), joinBy(place, length, at); got != want {
			t.Fatalf("Join(%#x, %#x, %d): %#x, want %#x", place, length, at, got, want)
		}
		if _, err := little.Cut(a, span(place, length)); (err == api.OK) != little.Within(span(place, length), uint32(len(a))) {
			t.Fatalf("Cut(%v, %d, %d): %d", a, place, length, err)
		}
		fuzzLists(t, a, b, place, length)
	})
}

func fuzzNumbers[T little.Whole](t *testing.T, b []byte, at int) {
	testPlace[T](t, b, at)
	whole := b[:len(b)/widthOf[T]()*widthOf[T]()]
	numbers, err := little.All[T](whole)
	if !bytes.Equal(little.Put(numbers...), whole) || err != api.OK {
		t.Fatalf("Put of All of %v: %v, %d", whole, numbers, err)
	}
}

// fuzzLists makes spans and runs of the bytes, and looks at what comes of them.
func fuzzLists(t *testing.T, a, b []byte, place, length uint32) {
	if runs, err := little.Runs(a, b); (err == api.OK) != (len(a) == len(b)) {
		t.Fatalf("Runs(%v, %v): %v, %d", a, b, runs, err)
	} else if err == api.OK {
		checkMend(t, a, runs)
	}
	short := a[:min(len(a), 40)]
	spans := []api.Span{span(place, length)}
	lengths := []uint32{length}
	runs := []api.Write{}
	for i := 1; i < len(short); i += 2 {
		spans = append(spans, span(uint32(short[i-1]), uint32(short[i])%16))
		lengths = append(lengths, uint32(short[i])<<23)
		runs = append(runs, run(uint32(short[i-1])%32, b[:min(len(b), int(short[i])%4)]...))
	}
	checkApart(t, spans)
	checkLay(t, place, lengths)
	checkMend(t, b, runs)
	checkMend(t, b, append(runs, run(place, a...)))
}

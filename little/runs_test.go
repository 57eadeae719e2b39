package little_test

import (
	"bytes"
	"slices"
	"testing"

	"playpen/api"
	"playpen/little"
)

// runsBy gives the runs by the document's words: each place that differs is a run or goes on with the last one.
func runsBy(from, to []byte) []api.Write {
	var runs []api.Write
	for at := range to {
		if from[at] == to[at] {
			continue
		}
		if at > 0 && from[at-1] != to[at-1] {
			last := &runs[len(runs)-1]
			last.Bytes = append(last.Bytes, to[at])
			continue
		}
		runs = append(runs, run(uint32(at), to[at]))
	}
	return runs
}

// P2.10: the document's example and edges.
func TestRunsExamples(t *testing.T) {
	for _, x := range []struct {
		from, to []byte
		want     []api.Write
	}{
		{[]byte{1, 2, 3, 4, 5}, []byte{1, 9, 9, 4, 6}, []api.Write{run(1, 9, 9), run(4, 6)}},
		{nil, nil, nil},
		{nil, []byte{}, nil},
		{[]byte{1, 2}, []byte{1, 2}, nil},
		{[]byte{1, 2}, []byte{2, 1}, []api.Write{run(0, 2, 1)}},
		{[]byte{0, 0, 0}, []byte{7, 0, 8}, []api.Write{run(0, 7), run(2, 8)}},
	} {
		if got, err := little.Runs(x.from, x.to); !sameRuns(got, x.want) || err != api.OK {
			t.Errorf("Runs(%v, %v): %v, %d", x.from, x.to, got, err)
		}
	}
}

// P2.10: lists of different lengths are refused, though one be the beginning of the other.
func TestRunsUnlike(t *testing.T) {
	for _, x := range [][2][]byte{{{1}, {1, 2}}, {{1, 2}, {1}}, {nil, {0}}, {{0}, nil}, {{1, 2, 3}, {4}}} {
		if got, err := little.Runs(x[0], x[1]); len(got) != 0 || err != api.ErrUnlike {
			t.Errorf("Runs(%v, %v): %v, %d", x[0], x[1], got, err)
		}
	}
}

// eachPair visits every two lists of the same length, up to seven bytes of two kinds.
func eachPair(visit func(from, to []byte)) {
	eachList([]byte{3, 200}, 7, func(from []byte) {
		eachList([]byte{3, 200}, 7, func(to []byte) {
			if len(from) == len(to) {
				visit(from, to)
			}
		})
	})
}

// P2.10, P2.15: every pair of short lists; what Runs tells mends the one to the other, and has no byte that could be left out.
func TestRunsAll(t *testing.T) {
	eachPair(func(from, to []byte) {
		runs, err := little.Runs(from, to)
		if !sameRuns(runs, runsBy(from, to)) || err != api.OK {
			t.Fatalf("Runs(%v, %v): %v, %d", from, to, runs, err)
		}
		if back, err := little.Mend(from, runs); !bytes.Equal(back, to) || err != api.OK {
			t.Fatalf("Mend(%v, %v): %v, %d; want %v", from, runs, back, err, to)
		}
		differ := 0
		for at := range to {
			if from[at] != to[at] {
				differ++
			}
		}
		if bytesIn(runs) != differ {
			t.Fatalf("Runs(%v, %v) has %d bytes, %d differ", from, to, bytesIn(runs), differ)
		}
	})
}

// mendBy gives what Mend answers, by the document's words, place by place.
func mendBy(b []byte, runs []api.Write) ([]byte, bool) {
	mended := slices.Clone(b)
	for i, r := range runs {
		if len(r.Bytes) == 0 || uint64(r.At)+uint64(len(r.Bytes)) > uint64(len(b)) {
			return nil, false
		}
		if i > 0 && uint64(r.At) < uint64(runs[i-1].At)+uint64(len(runs[i-1].Bytes)) {
			return nil, false
		}
		for k, c := range r.Bytes {
			mended[int(r.At)+k] = c
		}
	}
	return mended, true
}

func checkMend(t *testing.T, b []byte, runs []api.Write) {
	t.Helper()
	got, err := little.Mend(b, runs)
	want, ok := mendBy(b, runs)
	if ok && err != api.OK || !ok && err != api.ErrRuns || !bytes.Equal(got, want) {
		t.Fatalf("Mend(%v, %v): %v, %d; want %v, %t", b, runs, got, err, want, ok)
	}
	if !ok {
		return
	}
	if fewer, err := little.Runs(b, got); bytesIn(fewer) > bytesIn(runs) || err != api.OK {
		t.Fatalf("Runs(%v, %v): %v, %d; more bytes than %v", b, got, fewer, err, runs)
	}
}

// P2.11: the document's examples and edges.
func TestMendExamples(t *testing.T) {
	b := []byte{1, 2, 3}
	for _, x := range []struct {
		runs []api.Write
		want []byte
	}{
		{[]api.Write{run(0, 7), run(1, 8)}, []byte{7, 8, 3}},
		{nil, b},
		{[]api.Write{run(0, 7, 8, 9)}, []byte{7, 8, 9}},
		{[]api.Write{run(2, 9)}, []byte{1, 2, 9}},
		{[]api.Write{run(1, 2)}, b},
	} {
		if got, err := little.Mend(b, x.runs); !bytes.Equal(got, x.want) || err != api.OK {
			t.Errorf("Mend %v: %v, %d", x.runs, got, err)
		}
	}
	for _, bad := range [][]api.Write{
		{run(1, 7, 7), run(2, 8)}, {run(1)}, {run(0, 1), run(1)}, {run(3)}, {run(3, 1)}, {run(2, 1, 1)}, {run(0, 1, 1, 1, 1)},
		{run(2, 1), run(0, 1)}, {run(1, 1), run(1, 1)}, {run(1<<32-1, 1)}, {run(1<<32-1, 1, 1)}, {run(1<<32-3, 1, 1, 1)}, {run(0, 5), run(9, 5), run(1, 5)},
	} {
		if got, err := little.Mend(b, bad); len(got) != 0 || err != api.ErrRuns {
			t.Errorf("Mend %v: %v, %d", bad, got, err)
		}
	}
	if got, err := little.Mend(nil, nil); len(got) != 0 || err != api.OK {
		t.Errorf("Mend of nothing: %v, %d", got, err)
	}
	if got, err := little.Mend(nil, []api.Write{run(0, 1)}); len(got) != 0 || err != api.ErrRuns {
		t.Errorf("Mend of nothing with a run: %v, %d", got, err)
	}
}

// P2.11, P2.15: every list of at most three runs at small places and at the greatest.
func TestMendAll(t *testing.T) {
	var runs []api.Write
	for _, at := range []uint32{0, 1, 2, 3, 4, 5, 1<<32 - 1} {
		runs = append(runs, run(at), run(at, 3), run(at, 9, 8), run(at, 20, 37, 54))
	}
	for _, b := range [][]byte{nil, rising(3), rising(5)} {
		eachList(runs, 3, func(list []api.Write) { checkMend(t, b, list) })
	}
}

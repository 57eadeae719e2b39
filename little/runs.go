package little

import (
	"bytes"

	"playpen/api"
)

// Runs gives the runs in which one list differs from another of the same length.
func Runs(from []byte, to []byte) ([]api.Write, api.Errno) {
	if len(from) != len(to) {
		return nil, api.ErrUnlike
	}
	var runs []api.Write
	at := 0
search:
	for at < len(to) {
		first := at
		for from[at] != to[at] {
			at++
			if at == len(to) || from[at] == to[at] {
				runs = append(runs, api.Write{At: uint32(first), Bytes: bytes.Clone(to[first:at])})
				continue search
			}
		}
		at++
	}
	return runs, api.OK
}

// Mend lays runs over bytes.
func Mend(b []byte, runs []api.Write) ([]byte, api.Errno) {
	if !rise(runs, uint64(len(b))) {
		return nil, api.ErrRuns
	}
	mended := bytes.Clone(b)
	for _, run := range runs {
		copy(mended[run.At:], run.Bytes)
	}
	return mended, api.OK
}

// rise tells whether each run has bytes, begins where the one ahead of it ends or behind that, and ends within so many bytes.
func rise(runs []api.Write, total uint64) bool {
	next := uint64(0)
	for _, run := range runs {
		if len(run.Bytes) == 0 || uint64(run.At) < next {
			return false
		}
		next = uint64(run.At) + uint64(len(run.Bytes))
		if next > total {
			return false
		}
	}
	return true
}

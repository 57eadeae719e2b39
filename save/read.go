package save

import (
	"bytes"
	"slices"

	"playpen/api"
	"playpen/little"
	"playpen/step"
	"playpen/verify"
)

// fault is why bytes are refused, and the place that is told beside it: reading panics with it, so that nothing on its way up has to hand it on.
type fault struct {
	at  int
	err api.Errno
}

// read gives the state of a save that goes on from a base.
func read(m *verify.Module, from base, b []byte) api.State {
	head := readHead(b)
	if head.Module != m.Digest() {
		panic(fault{modulePlace, api.ErrForeign})
	}
	if head.Delta != (from.kind == deltaKind) {
		panic(fault{kindPlace, api.ErrBase})
	}
	if head.Base != from.mark() {
		panic(fault{basePlace, api.ErrBase})
	}
	s := readState(b, from.data())
	if !step.Fits(m, s) {
		panic(fault{statePlace, api.ErrState})
	}
	return s
}

// readHead gives what the head of a save says.
func readHead(b []byte) api.Saved {
	if len(b) < headSize {
		panic(fault{len(b), api.ErrSaved})
	}
	if string(b[:len(opening)]) != opening {
		panic(fault{0, api.ErrSaved})
	}
	if wordAt(b, versionPlace) != version {
		panic(fault{versionPlace, api.ErrSaved})
	}
	kind, mark := wordAt(b, kindPlace), wordAt(b, basePlace)
	if kind != wholeKind && kind != deltaKind {
		panic(fault{kindPlace, api.ErrSaved})
	}
	if kind == wholeKind && mark != 0 {
		panic(fault{basePlace, api.ErrSaved})
	}
	if wordAt(b, sumPlace) != sumOf(b) {
		panic(fault{sumPlace, api.ErrSaved})
	}
	module, _ := little.At[uint64](b, modulePlace)
	return api.Saved{Module: module, Delta: kind == deltaKind, Base: mark, Life: api.Life(b[lifePlace]), PC: wordAt(b, pcPlace)}
}

// readState gives the state whose save, with runs that lead from other data, has these bytes; the head is there.
func readState(b []byte, from []byte) api.State {
	count, _ := little.At[uint16](b, opsPlace)
	r := &reader{rest: b[headSize:]}
	s := api.State{
		Life:  api.Life(b[lifePlace]),
		Fault: api.Fault(b[faultPlace]),
		PC:    wordAt(b, pcPlace),
		SP:    wordAt(b, spPlace),
		Value: wordAt(b, valuePlace),
	}
	s.Ops = r.words(uint32(count))
	s.Data = r.data(from, wordAt(b, runsPlace))
	if len(r.rest) > 0 {
		panic(fault{statePlace, api.ErrSaved})
	}
	return s
}

// reader is how far a save is read behind its head.
type reader struct {
	rest []byte
}

// part reads so many bytes.
func (r *reader) part(count uint32) []byte {
	part, err := little.Cut(r.rest, api.Span{Len: count})
	if err != api.OK {
		panic(fault{statePlace, api.ErrSaved})
	}
	r.rest = r.rest[count:]
	return part
}

// words reads so many words; they are not so many that their bytes could not be told.
func (r *reader) words(count uint32) []uint32 {
	words, _ := little.All[uint32](r.part(4 * count))
	return words
}

// run reads a run.
func (r *reader) run() api.Write {
	head := r.words(2)
	return api.Write{At: head[0], Bytes: r.part(head[1])}
}

// data reads so many runs, and gives the data to which they lead from others. They must be the very ones that lead there: the same data have no second save.
func (r *reader) data(from []byte, count uint32) []byte {
	// Between two runs lies a byte of neither. To know that first keeps a save from making the reader gather far more runs than there can be.
	if count > uint32(len(from))/2 {
		panic(fault{statePlace, api.ErrSaved})
	}
	var runs []api.Write
	for range count {
		runs = append(runs, r.run())
	}
	data, err := little.Mend(from, runs)
	if err != api.OK {
		panic(fault{statePlace, api.ErrSaved})
	}
	if told, _ := little.Runs(from, data); !slices.EqualFunc(told, runs, sameRun) {
		panic(fault{statePlace, api.ErrSaved})
	}
	return data
}

func sameRun(a, b api.Write) bool {
	return a.At == b.At && bytes.Equal(a.Bytes, b.Bytes)
}

// wordAt gives the word at a place of the head, which is there.
func wordAt(b []byte, at int) uint32 {
	w, _ := little.At[uint32](b, at)
	return w
}

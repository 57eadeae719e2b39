package image

import (
	"playpen/api"
	"playpen/little"
)

// What a file begins with, and the one version that there is.
const (
	mark    = "PEN!"
	version = 1
)

// The places of the header's words.
const (
	versionPlace = 4
	sumPlace     = 8
	countPlace   = 12
	zeroPlace    = 48
	stackPlace   = 52
	sparePlace   = 56
)

// The segments, in their order.
const (
	codePart = iota
	jumpsPart
	dataPart
	namesPart
)

// segmentPlaces holds where in the header each segment's At stands; its Len stands behind that.
var segmentPlaces = [...]int{codePart: 16, jumpsPart: 24, dataPart: 32, namesPart: 40}

// lenBehind is how far a segment's Len stands behind its At.
const lenBehind = 4

// Segments gives the spans of the code, the jumps, the data and the names, as a header says them.
func Segments(b []byte) ([]api.Span, api.Errno) {
	if _, err := lengthFault(b); err != api.OK {
		return nil, err
	}
	return spansOf(b), api.OK
}

// Seal gives the bytes with the header's sum made right.
func Seal(b []byte) ([]byte, api.Errno) {
	if _, err := lengthFault(b); err != api.OK {
		return nil, err
	}
	return little.With(b, sumPlace, sumOf(b))
}

// lengthFault tells why a file cannot have as many bytes as these are, and the place beside that.
func lengthFault(b []byte) (int, api.Errno) {
	if len(b) < api.HeaderSize {
		return len(b), api.ErrHeader
	}
	if len(b) > api.MaxFile {
		return api.MaxFile, api.ErrHeader
	}
	return 0, api.OK
}

// headerFault tells what is wrong with a file ahead of its segments, and the place of that.
func headerFault(b []byte) (int, api.Errno) {
	if at, err := lengthFault(b); err != api.OK {
		return at, err
	}
	if string(b[:len(mark)]) != mark {
		return 0, api.ErrHeader
	}
	if wordAt(b, versionPlace) != version {
		return versionPlace, api.ErrVersion
	}
	if wordAt(b, sumPlace) != sumOf(b) {
		return sumPlace, api.ErrImSum
	}
	for at := sparePlace; at < api.HeaderSize; at += 4 {
		if wordAt(b, at) != 0 {
			return at, api.ErrSpare
		}
	}
	return 0, api.OK
}

// spansOf gives the spans of the segments as a header says them; the header is there.
func spansOf(b []byte) []api.Span {
	var spans []api.Span
	for _, at := range segmentPlaces {
		spans = append(spans, api.Span{At: wordAt(b, at), Len: wordAt(b, at+lenBehind)})
	}
	return spans
}

// sumOf gives the sum that a file must have: that of its bytes with noughts where the sum stands.
func sumOf(b []byte) uint32 {
	bare, _ := little.With(b, sumPlace, uint32(0))
	return little.Sum(bare)
}

// wordAt gives the word at a place of the header, which is there.
func wordAt(b []byte, at int) uint32 {
	w, _ := little.At[uint32](b, at)
	return w
}

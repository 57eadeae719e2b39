package image

import (
	"playpen/api"
	"playpen/isa"
	"playpen/little"
)

// Parse gives the image of bytes, or the place of the first fault.
func Parse(b []byte) (api.Image, int, api.Errno) {
	if at, err := headerFault(b); err != api.OK {
		return api.Image{}, at, err
	}
	spans := spansOf(b)
	if at, err := spansFault(spans, uint32(len(b))); err != api.OK {
		return api.Image{}, at, err
	}
	im, at, err := readSegments(b, spans)
	if err != api.OK {
		return api.Image{}, at, err
	}
	return im, 0, api.OK
}

// spansFault tells which segment lies beyond the file's end, or laps over the header or a segment ahead of it.
func spansFault(spans []api.Span, total uint32) (int, api.Errno) {
	for i, at := range segmentPlaces {
		if !little.Within(spans[i], total) {
			return at, api.ErrSegment
		}
	}
	withHeader := append([]api.Span{{At: 0, Len: api.HeaderSize}}, spans...)
	if i, _, apart := little.Apart(withHeader); !apart {
		// The header is ahead of them all, so it is no segment's number that Apart tells, but one more.
		return segmentPlaces[i-1], api.ErrOverlap
	}
	return 0, api.OK
}

// readSegments gives the image that stands in the segments, which lie within the file and lap over nothing.
func readSegments(b []byte, spans []api.Span) (api.Image, int, api.Errno) {
	var im api.Image
	var at int
	var err api.Errno
	if im.Code, at, err = readCode(b, spans[codePart]); err != api.OK {
		return im, at, err
	}
	if im.Jumps, err = readJumps(b, spans[jumpsPart]); err != api.OK {
		return im, segmentPlaces[jumpsPart] + lenBehind, err
	}
	im.Data = bytesOf(b, spans[dataPart])
	im.Zero = wordAt(b, zeroPlace)
	im.Stack = wordAt(b, stackPlace)
	if !stackMayBe(im.Stack) {
		return im, stackPlace, api.ErrSize
	}
	if room(im) > 1<<api.MaxBits {
		return im, zeroPlace, api.ErrSize
	}
	im.Names, at, err = readNames(b, spans[namesPart])
	return im, at, err
}

// readCode gives the code, if it has as many instructions as the header says.
func readCode(b []byte, s api.Span) ([]api.Instr, int, api.Errno) {
	code, at, err := isa.Decode(bytesOf(b, s))
	if err != api.OK {
		return nil, int(s.At) + at, err
	}
	if uint32(len(code)) != wordAt(b, countPlace) {
		return nil, countPlace, api.ErrHeader
	}
	return code, 0, api.OK
}

// readJumps gives the jumps, if they are whole words and not too many.
func readJumps(b []byte, s api.Span) ([]uint32, api.Errno) {
	if s.Len > 4*api.MaxInstrs {
		return nil, api.ErrTable
	}
	jumps, err := little.All[uint32](bytesOf(b, s))
	if err != api.OK {
		return nil, api.ErrTable
	}
	return jumps, api.OK
}

// readNames gives the entries, or the place in the file at which the first one at fault begins.
func readNames(b []byte, s api.Span) ([]api.Export, int, api.Errno) {
	var names []api.Export
	rest := bytesOf(b, s)
	at := int(s.At)
reading:
	for len(rest) > 0 {
		entry, size := readEntry(rest)
		switch {
		case size == 0:
			break reading
		case !mayFollow(names, entry):
			break reading
		}
		names = append(names, entry)
		rest = rest[size:]
		at += size
	}
	if len(rest) > 0 {
		return nil, at, api.ErrNames
	}
	return names, 0, api.OK
}

// readEntry gives the entry with which bytes begin, and how many of them are its own; 0, if they end in the midst of it.
func readEntry(b []byte) (api.Export, int) {
	at, err := little.At[uint32](b, 0)
	if err != api.OK {
		return api.Export{}, 0
	}
	length, err := little.At[uint8](b, 4)
	if err != api.OK {
		return api.Export{}, 0
	}
	name, err := little.Cut(b, api.Span{At: 5, Len: uint32(length)})
	if err != api.OK {
		return api.Export{}, 0
	}
	return api.Export{Name: string(name), At: at}, 5 + int(length)
}

// bytesOf gives the bytes of a span that lies within the file.
func bytesOf(b []byte, s api.Span) []byte {
	cut, _ := little.Cut(b, s)
	return cut
}

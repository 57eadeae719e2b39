package image

import (
	"bytes"

	"playpen/api"
	"playpen/isa"
	"playpen/little"
)

// Size tells how many bytes Encode gives.
func Size(im api.Image) (int, api.Errno) {
	b, err := Encode(im)
	return len(b), err
}

// Encode gives an image's canonical bytes.
func Encode(im api.Image) ([]byte, api.Errno) {
	if err := Check(im); err != api.OK {
		return nil, err
	}
	b := make([]byte, api.HeaderSize)
	copy(b, mark)
	layWord(b, versionPlace, version)
	layWord(b, countPlace, uint32(len(im.Code)))
	layWord(b, zeroPlace, im.Zero)
	layWord(b, stackPlace, im.Stack)
	parts := partsOf(im)
	for i, at := range segmentPlaces {
		layWord(b, at, uint32(len(b)))
		layWord(b, at+lenBehind, uint32(len(parts[i])))
		b = append(b, parts[i]...)
	}
	layWord(b, sumPlace, sumOf(b))
	return b, api.OK
}

// Canonical tells whether bytes are just those that Encode gives for their image.
func Canonical(b []byte) bool {
	im, _, err := Parse(b)
	if err != api.OK {
		return false
	}
	canonical, err := Encode(im)
	return err == api.OK && bytes.Equal(canonical, b)
}

// partsOf gives the bytes of each segment of an image that may be written down.
func partsOf(im api.Image) [4][]byte {
	code, _, _ := isa.Encode(im.Code)
	return [...][]byte{
		codePart:  code,
		jumpsPart: little.Put(im.Jumps...),
		dataPart:  im.Data,
		namesPart: namesBytes(im.Names),
	}
}

// namesBytes gives the bytes of entries, one behind the other.
func namesBytes(names []api.Export) []byte {
	var b []byte
	for _, entry := range names {
		b = append(b, little.Put(entry.At)...)
		b = append(b, byte(len(entry.Name)))
		b = append(b, entry.Name...)
	}
	return b
}

// layWord lays a word over bytes that are the program's own.
func layWord(b []byte, at int, w uint32) {
	copy(b[at:], little.Put(w))
}

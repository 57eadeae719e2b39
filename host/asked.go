package host

import (
	"bytes"

	"playpen/api"
	"playpen/little"
	"playpen/mem"
	"playpen/plane"
)

// asked is a call: the data of the module that made it, and its words as the library's table names them; those that it does not have are 0.
type asked struct {
	data    *mem.Memory
	a, b, c uint32
}

func askedBy(data *mem.Memory, args []uint32) asked {
	var words [3]uint32
	copy(words[:], args)
	return asked{data: data, a: words[0], b: words[1], c: words[2]}
}

// text gives the text at a: no call has one elsewhere.
func (q asked) text() []byte {
	// A window of MaxText bytes is never refused.
	b, _ := q.data.Read(q.a, api.MaxText)
	if end := bytes.IndexByte(b, 0); end >= 0 {
		return b[:end]
	}
	return b
}

// point gives the point at an address, with parts of 64 bits.
func (q asked) point(at uint32) complex128 {
	return plane.Far(plane.Of(q.data.Load4(at), q.data.Load4(at+4)))
}

// told is a reply that writes nothing.
func told(value uint32) api.Reply {
	return api.Reply{Value: value}
}

// wrote is the reply of a call that has found what it writes.
func wrote(at uint32, b []byte) api.Reply {
	return api.Reply{Value: 1, Writes: []api.Write{{At: at, Bytes: b}}}
}

// found writes a word, if there is one.
func found(at, word uint32, err api.Errno) api.Reply {
	if err != api.OK {
		return told(0)
	}
	return wrote(at, little.Put(word))
}

// laid writes points, one behind the other.
func laid(at uint32, points ...complex128) api.Reply {
	var words []uint32
	for _, point := range points {
		re, im := plane.Bits(plane.Near(point))
		words = append(words, re, im)
	}
	return wrote(at, little.Put(words...))
}

package isa

import (
	"bytes"
	"iter"

	"playpen/api"
	"playpen/little"
)

// Encode gives the bytes of code, and the index of the first instruction that may not be.
func Encode(code []api.Instr) ([]byte, int, api.Errno) {
	if len(code) > api.MaxInstrs {
		return nil, api.MaxInstrs, api.ErrInstrs
	}
	var b []byte
	for i, in := range code {
		size, err := sized(in)
		if err != api.OK {
			return nil, i, err
		}
		b = append(b, byte(in.Op))
		b = append(b, operandBytes(in.Arg, size-1)...)
	}
	return b, 0, api.OK
}

// Places tells at which place each instruction of code begins, and at last where the code ends.
func Places(code []api.Instr) ([]int, api.Errno) {
	if _, _, err := Encode(code); err != api.OK {
		return nil, err
	}
	at := 0
	places := []int{at}
	for _, in := range code {
		at += Size(in)
		places = append(places, at)
	}
	return places, api.OK
}

// Decode gives the code of bytes, and the place of the first fault.
func Decode(b []byte) ([]api.Instr, int, api.Errno) {
	var code []api.Instr
	for at, r := range readings(b) {
		if r.err != api.OK {
			return nil, at, r.err
		}
		code = append(code, r.in)
	}
	return code, 0, api.OK
}

// Walk goes through the instructions of bytes, each with its place, up to the first that may not be.
func Walk(b []byte) iter.Seq2[int, api.Instr] {
	// The caller may write over b ahead of the walk, or during it.
	held := bytes.Clone(b)
	return func(yield func(int, api.Instr) bool) {
		for at, r := range readings(held) {
			if r.err != api.OK || !yield(at, r.in) {
				return
			}
		}
	}
}

// reading is what stands at a place: an instruction of so many bytes, or the reason why there is none.
type reading struct {
	in   api.Instr
	size int
	err  api.Errno
}

// readings goes through bytes, instruction by instruction, each with its place; the first place without one is the last that is told.
func readings(b []byte) iter.Seq2[int, reading] {
	return func(yield func(int, reading) bool) {
		at := 0
		for count := 0; at < len(b); count++ {
			r := reading{err: api.ErrInstrs}
			if count < api.MaxInstrs {
				r = read(b[at:])
			}
			if !yield(at, r) || r.err != api.OK {
				return
			}
			at += r.size
		}
	}
}

// read tells the instruction with which bytes begin; there is one byte at least.
func read(b []byte) reading {
	op := api.Op(b[0])
	info, is := Info(op)
	if !is {
		return reading{err: api.ErrOp}
	}
	arg, err := operand(b[1:], info.Width)
	if err != api.OK {
		return reading{err: api.ErrCut}
	}
	if arg > info.Most {
		return reading{err: api.ErrOperand}
	}
	return reading{in: api.Instr{Op: op, Arg: arg}, size: 1 + info.Width}
}

// operandBytes gives the lowest bytes of an operand, as many as its width is.
func operandBytes(arg uint32, width int) []byte {
	switch width {
	case 1:
		return little.Put(uint8(arg))
	case 2:
		return little.Put(uint16(arg))
	case 4:
		return little.Put(arg)
	}
	return nil
}

// operand reads what operandBytes lays down; it refuses where bytes are lacking.
func operand(b []byte, width int) (uint32, api.Errno) {
	switch width {
	case 1:
		x, err := little.At[uint8](b, 0)
		return uint32(x), err
	case 2:
		x, err := little.At[uint16](b, 0)
		return uint32(x), err
	case 4:
		return little.At[uint32](b, 0)
	}
	return 0, api.OK
}

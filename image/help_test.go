package image_test

import (
	"bytes"
	"encoding/binary"
	"fmt"
	"hash/adler32"
	"math/big"
	"slices"
	"strings"
	"testing"

	"playpen/api"
	"playpen/image"
	"playpen/isa"
)

// smallCode is the code of the document's first example.
func smallCode() []api.Instr {
	return []api.Instr{{Op: api.OpEnter, Arg: 4}, {Op: api.OpConst}, {Op: api.OpLeave, Arg: 4}}
}

// nops gives code of so many instructions that all have one byte.
func nops(count int) []api.Instr {
	return slices.Repeat([]api.Instr{{Op: api.OpNop}}, count)
}

// named gives entries of these names, each at another place.
func named(names ...string) []api.Export {
	var list []api.Export
	for i, name := range names {
		list = append(list, api.Export{Name: name, At: uint32(i) * 0x01010101})
	}
	return list
}

// rising gives so many names, each above the one ahead of it.
func rising(count int) []string {
	var list []string
	for i := range count {
		list = append(list, fmt.Sprintf("%03d", i))
	}
	return list
}

// fullImage has something in every part.
func fullImage() api.Image {
	return api.Image{
		Code: smallCode(), Jumps: []uint32{2, 0xFFFFFFFF, 1}, Data: []byte{7, 0, 9}, Zero: 5, Stack: 68,
		Names: named("A", "a", "a\x00", "b"),
	}
}

// greatest gives an image of which no part may be greater.
func greatest() api.Image {
	im := api.Image{Stack: 64, Data: bytes.Repeat([]byte{0xFF}, 65536-64), Jumps: slices.Repeat([]uint32{1<<32 - 1}, 16384)}
	im.Code = slices.Repeat([]api.Instr{{Op: api.OpLocal, Arg: 1<<32 - 1}}, 16384)
	for i := range 64 {
		im.Names = append(im.Names, api.Export{Name: strings.Repeat(string(rune('0'+i)), 32), At: 1<<32 - 1})
	}
	return im
}

// scattered gives so many words, always the same ones, from all over.
func scattered(count int) []uint32 {
	list := make([]uint32, count)
	state := uint64(0x9E3779B97F4A7C15)
	for i := range list {
		state ^= state << 13
		state ^= state >> 7
		state ^= state << 17
		list[i] = uint32(state * 0x2545F4914F6CDD1D >> 32)
	}
	return list
}

// someImage gives an image that may be written down, another one for each words; there are nine of them at least.
func someImage(words []uint32) api.Image {
	im := api.Image{Stack: 64 + 4*(words[0]%8177), Zero: words[1] % 20000}
	for _, w := range words[9:] {
		op := api.Op(1 + w%59)
		info, _ := isa.Info(op)
		im.Code = append(im.Code, api.Instr{Op: op, Arg: uint32(uint64(w>>3) * 2654435761 % (uint64(info.Most) + 1))})
	}
	im.Jumps = slices.Clone(words[2 : 2+words[2]%4])
	for i := range words[3] % 50 {
		im.Data = append(im.Data, byte(words[4]>>(i%25)))
	}
	last := ""
	for i, w := range words[5 : 5+words[5]%5] {
		last += string([]byte{byte(w), byte(w >> 8), byte(w >> 16)}[:1+w%3])
		im.Names = append(im.Names, api.Export{Name: last, At: words[i]})
	}
	return im
}

// sameImage holds two images against each other; nothing in a list is nil or no elements.
func sameImage(a, b api.Image) bool {
	return slices.Equal(a.Code, b.Code) && slices.Equal(a.Jumps, b.Jumps) && bytes.Equal(a.Data, b.Data) &&
		a.Zero == b.Zero && a.Stack == b.Stack && slices.Equal(a.Names, b.Names)
}

func cloned(im api.Image) api.Image {
	im.Code, im.Jumps, im.Data, im.Names = slices.Clone(im.Code), slices.Clone(im.Jumps), slices.Clone(im.Data), slices.Clone(im.Names)
	return im
}

// checkBy says whether an image may be written down, by the words of the document.
func checkBy(im api.Image) api.Errno {
	if len(im.Code) > 16384 {
		return api.ErrInstrs
	}
	for _, in := range im.Code {
		if err := isa.Check(in); err != api.OK {
			return err
		}
	}
	if len(im.Jumps) > 16384 {
		return api.ErrTable
	}
	if !stackBy(im.Stack) || !roomBy(len(im.Data), im.Zero, im.Stack) {
		return api.ErrSize
	}
	if len(im.Names) > 64 {
		return api.ErrNames
	}
	for i, x := range im.Names {
		if x.Name == "" || len(x.Name) > 32 || i > 0 && strings.Compare(im.Names[i-1].Name, x.Name) != -1 {
			return api.ErrNames
		}
	}
	return api.OK
}

func stackBy(stack uint32) bool {
	for s := 64; s <= 32768; s += 4 {
		if uint32(s) == stack {
			return true
		}
	}
	return false
}

func roomBy(data int, zero, stack uint32) bool {
	sum := big.NewInt(int64(data))
	sum.Add(sum, big.NewInt(int64(zero)))
	sum.Add(sum, big.NewInt(int64(stack)))
	return sum.Cmp(big.NewInt(65536)) <= 0
}

// plan is a file as its header says it; body is what stands behind the header.
type plan struct {
	mark    string
	version uint32
	wrong   uint32 // what is added to the right sum
	count   uint32
	spans   [4]api.Span
	zero    uint32
	stack   uint32
	spare   [2]uint32
	body    []byte
}

// file lays a plan down and sums it up.
func (p plan) file() []byte {
	b := []byte(p.mark)
	for _, w := range []uint32{p.version, 0, p.count} {
		b = binary.LittleEndian.AppendUint32(b, w)
	}
	for _, s := range p.spans {
		b = binary.LittleEndian.AppendUint32(b, s.At)
		b = binary.LittleEndian.AppendUint32(b, s.Len)
	}
	for _, w := range []uint32{p.zero, p.stack, p.spare[0], p.spare[1]} {
		b = binary.LittleEndian.AppendUint32(b, w)
	}
	b = append(b, p.body...)
	binary.LittleEndian.PutUint32(b[8:], adler32.Checksum(b)+p.wrong)
	return b
}

// planOf lays an image out, with so many bytes ahead of each segment and behind the last one.
func planOf(im api.Image, gap int) plan {
	p := plan{mark: "\x50\x45\x4E\x21", version: 1, count: uint32(len(im.Code)), zero: im.Zero, stack: im.Stack}
	code, _, _ := isa.Encode(im.Code)
	var jumps, names []byte
	for _, w := range im.Jumps {
		jumps = binary.LittleEndian.AppendUint32(jumps, w)
	}
	for _, x := range im.Names {
		names = binary.LittleEndian.AppendUint32(names, x.At)
		names = append(append(names, byte(len(x.Name))), x.Name...)
	}
	p.body = bytes.Repeat([]byte{0xEE}, gap)
	for i, part := range [][]byte{code, jumps, im.Data, names} {
		p.spans[i] = api.Span{At: uint32(64 + len(p.body)), Len: uint32(len(part))}
		p.body = append(append(p.body, part...), bytes.Repeat([]byte{0xEE}, gap)...)
	}
	return p
}

// resealed gives a copy of a file with its right sum, by the library's own sum.
func resealed(b []byte) []byte {
	c := slices.Clone(b)
	clear(c[8:12])
	binary.LittleEndian.PutUint32(c[8:], adler32.Checksum(c))
	return c
}

func word(b []byte, at int) uint32 { return binary.LittleEndian.Uint32(b[at:]) }

// parseBy gives what the document says of Parse, point by point.
func parseBy(b []byte) (api.Image, int, api.Errno) {
	var none api.Image
	if at, err := headBy(b); err != api.OK {
		return none, at, err
	}
	var spans [4]api.Span
	for i := range spans {
		spans[i] = api.Span{At: word(b, 16+8*i), Len: word(b, 20+8*i)}
		if uint64(spans[i].At)+uint64(spans[i].Len) > uint64(len(b)) {
			return none, 16 + 8*i, api.ErrSegment
		}
	}
	owner := bytes.Repeat([]byte{1}, 64)
	owner = append(owner, make([]byte, len(b)-64)...)
	for i, s := range spans {
		for at := s.At; at < s.At+s.Len; at++ {
			if owner[at] != 0 {
				return none, 16 + 8*i, api.ErrOverlap
			}
			owner[at] = 1
		}
	}
	return partsBy(b, spans)
}

func headBy(b []byte) (int, api.Errno) {
	switch {
	case len(b) < 64:
		return len(b), api.ErrHeader
	case len(b) > 1<<20:
		return 1 << 20, api.ErrHeader
	case b[0] != 0x50 || b[1] != 0x45 || b[2] != 0x4E || b[3] != 0x21:
		return 0, api.ErrHeader
	case b[4] != 1 || b[5] != 0 || b[6] != 0 || b[7] != 0:
		return 4, api.ErrVersion
	case word(b, 8) != word(resealed(b), 8):
		return 8, api.ErrImSum
	case word(b, 56) != 0:
		return 56, api.ErrSpare
	case word(b, 60) != 0:
		return 60, api.ErrSpare
	}
	return 0, api.OK
}

func partsBy(b []byte, spans [4]api.Span) (api.Image, int, api.Errno) {
	var none api.Image
	part := func(i int) []byte { return b[spans[i].At:][:spans[i].Len] }
	code, at, err := isa.Decode(part(0))
	if err != api.OK {
		return none, int(spans[0].At) + at, err
	}
	if uint64(len(code)) != uint64(word(b, 12)) {
		return none, 12, api.ErrHeader
	}
	if spans[1].Len%4 != 0 || spans[1].Len > 65536 {
		return none, 28, api.ErrTable
	}
	im := api.Image{Code: code, Data: part(2), Zero: word(b, 48), Stack: word(b, 52)}
	for at := 0; at < len(part(1)); at += 4 {
		im.Jumps = append(im.Jumps, word(part(1), at))
	}
	if !stackBy(im.Stack) {
		return none, 52, api.ErrSize
	}
	if !roomBy(len(im.Data), im.Zero, im.Stack) {
		return none, 48, api.ErrSize
	}
	names := part(3)
	for begin := 0; begin < len(names); {
		size := 5
		if begin+4 < len(names) {
			size += int(names[begin+4])
		}
		if begin+size > len(names) {
			return none, int(spans[3].At) + begin, api.ErrNames
		}
		im.Names = append(im.Names, api.Export{Name: string(names[begin+5 : begin+size]), At: word(names, begin)})
		if checkBy(api.Image{Stack: 64, Names: im.Names}) != api.OK {
			return none, int(spans[3].At) + begin, api.ErrNames
		}
		begin += size
	}
	return im, 0, api.OK
}

// checkParse holds Parse and Canonical against the document's words.
func checkParse(t *testing.T, b []byte) {
	t.Helper()
	im, at, err := image.Parse(b)
	want, wantAt, wantErr := parseBy(b)
	if !sameImage(im, want) || at != wantAt || err != wantErr {
		t.Fatalf("Parse(%x): %v, %d, %d, want %v, %d, %d", b[:min(len(b), 200)], im, at, err, want, wantAt, wantErr)
	}
	canonical := wantErr == api.OK && bytes.Equal(planOf(want, 0).file(), b)
	if got := image.Canonical(b); got != canonical {
		t.Fatalf("Canonical(%x): %t", b[:min(len(b), 200)], got)
	}
}

// checkEncode holds Check, Bits, Size and Encode against the document's words.
func checkEncode(t *testing.T, im api.Image) {
	t.Helper()
	wantErr, wantBits := checkBy(im), 0
	var want []byte
	if wantErr == api.OK {
		want = planOf(im, 0).file()
		wantBits = bitsBy(len(im.Data) + int(im.Zero) + int(im.Stack))
	}
	if err := image.Check(im); err != wantErr {
		t.Fatalf("Check: %d, want %d", err, wantErr)
	}
	if b, err := image.Encode(im); !bytes.Equal(b, want) || err != wantErr {
		t.Fatalf("Encode: %x, %d, want %x, %d", b[:min(len(b), 200)], err, want[:min(len(want), 200)], wantErr)
	}
	if n, err := image.Size(im); n != len(want) || err != wantErr {
		t.Fatalf("Size: %d, %d, want %d, %d", n, err, len(want), wantErr)
	}
	if k, err := image.Bits(im); k != wantBits || err != wantErr {
		t.Fatalf("Bits: %d, %d, want %d, %d", k, err, wantBits, wantErr)
	}
}

// bitsBy gives the first of the powers of two from 2^8 on that is at least so much.
func bitsBy(room int) int {
	for i, power := range []int{256, 512, 1024, 2048, 4096, 8192, 16384, 32768, 65536} {
		if power >= room {
			return 8 + i
		}
	}
	panic("too much room")
}

package image_test

import (
	"bytes"
	"encoding/binary"
	"slices"
	"strings"
	"testing"

	"playpen/api"
	"playpen/image"
)

// gapped lays fullImage out with three bytes ahead of each segment: the code at 67, the jumps at 81, the data at 96, the names at 102.
func gapped() plan { return planOf(fullImage(), 3) }

// wrongs spoil a file, in the order in which Parse tells of them.
func wrongs() []struct {
	what  string
	spoil func(p *plan)
	at    int
	err   api.Errno
} {
	return []struct {
		what  string
		spoil func(p *plan)
		at    int
		err   api.Errno
	}{
		{"other first bytes", func(p *plan) { p.mark = "PEN?" }, 0, api.ErrHeader},
		{"version", func(p *plan) { p.version = 2 }, 4, api.ErrVersion},
		{"sum", func(p *plan) { p.wrong = 1 << 16 }, 8, api.ErrImSum},
		{"first spare word", func(p *plan) { p.spare[0] = 1 << 31 }, 56, api.ErrSpare},
		{"second spare word", func(p *plan) { p.spare[1] = 1 }, 60, api.ErrSpare},
		{"code beyond the end", func(p *plan) { p.spans[0] = api.Span{At: 1<<32 - 1, Len: 2} }, 16, api.ErrSegment},
		{"jumps beyond the end", func(p *plan) { p.spans[1] = api.Span{At: uint32(64+len(p.body)) - 11, Len: 12} }, 24, api.ErrSegment},
		{"data beyond the end", func(p *plan) { p.spans[2] = api.Span{At: uint32(64+len(p.body)) + 1} }, 32, api.ErrSegment},
		{"names beyond the end", func(p *plan) { p.spans[3].Len = 1<<32 - 1 }, 40, api.ErrSegment},
		{"code over the header", func(p *plan) { p.spans[0].At = 63 }, 16, api.ErrOverlap},
		{"jumps over the code", func(p *plan) { p.spans[1].At = p.spans[0].At + 10 }, 24, api.ErrOverlap},
		{"data over the header", func(p *plan) { p.spans[2] = api.Span{At: 60, Len: 1} }, 32, api.ErrOverlap},
		{"names over the data", func(p *plan) { p.spans[3].At = p.spans[2].At - 24 }, 40, api.ErrOverlap},
		{"no operation", func(p *plan) { p.body[3+3] = 0 }, 64 + 3 + 3, api.ErrOp},
		{"one instruction too many", func(p *plan) { p.count = 4 }, 12, api.ErrHeader},
		{"half a jump", func(p *plan) { p.spans[1].Len = 10 }, 28, api.ErrTable},
		{"stack", func(p *plan) { p.stack = 66 }, 52, api.ErrSize},
		{"too much together", func(p *plan) { p.zero = 65536 - 68 - 2 }, 48, api.ErrSize},
		{"first name empty", func(p *plan) { p.body[102-64+4] = 0 }, 102, api.ErrNames},
		{"second name not above", func(p *plan) { p.body[108-64+5] = 'A' }, 108, api.ErrNames},
		{"last name cut off", func(p *plan) { p.spans[3].Len-- }, 121, api.ErrNames},
	}
}

// P8.4: each fault by itself, and with each later one besides.
func TestParseOrder(t *testing.T) {
	if im, at, err := image.Parse(gapped().file()); !sameImage(im, fullImage()) || at != 0 || err != api.OK {
		t.Fatalf("unspoiled: %v, %d, %d", im, at, err)
	}
	for i, first := range wrongs() {
		for _, second := range wrongs()[i:] {
			p := gapped()
			second.spoil(&p)
			first.spoil(&p)
			im, at, err := image.Parse(p.file())
			if !sameImage(im, api.Image{}) || at != first.at || err != first.err {
				t.Errorf("%s, and %s: %v, %d, %d", first.what, second.what, im, at, err)
			}
			checkParse(t, p.file())
		}
	}
}

// P8.4: each of the first four bytes counts, each bit of the version, of the sum and of the spare words.
func TestParseHeaderBits(t *testing.T) {
	b := gapped().file()
	for at := range 64 {
		for bit := range 8 {
			c := slices.Clone(b)
			c[at] ^= 1 << bit
			checkParse(t, c)
			checkParse(t, resealed(c))
		}
	}
}

// P8.4: how many bytes there are.
func TestParseLengths(t *testing.T) {
	b := planOf(api.Image{Stack: 64}, 0).file()
	for n := range 64 {
		if _, at, err := image.Parse(b[:n]); at != n || err != api.ErrHeader {
			t.Errorf("%d bytes: %d, %d", n, at, err)
		}
	}
	checkParse(t, b)
	most := resealed(append(slices.Clone(b), make([]byte, api.MaxFile-64)...))
	if im, at, err := image.Parse(most); !sameImage(im, api.Image{Stack: 64}) || at != 0 || err != api.OK {
		t.Errorf("as many bytes as may be: %v, %d, %d", im, at, err)
	}
	for _, more := range []int{1, 1000} {
		if _, at, err := image.Parse(resealed(append(slices.Clone(most), make([]byte, more)...))); at != api.MaxFile || err != api.ErrHeader {
			t.Errorf("%d more: %d, %d", more, at, err)
		}
	}
	if _, at, err := image.Parse(make([]byte, 64)); at != 0 || err != api.ErrHeader {
		t.Errorf("64 noughts: %d, %d", at, err)
	}
}

// P8.4: spans of all places and lengths near the edges, for each segment, against the others and the header.
func TestParseSpans(t *testing.T) {
	total := uint32(64 + len(gapped().body))
	edges := []uint32{0, 1, 3, 4, 10, 11, 12, 25, 59, 60, 63, 64, 65, 66, 67, 68, 77, 78, 80, 81, 92, 93, 96, 98, 99, 101, 102, total - 1, total, total + 1, 1 << 31, 1<<32 - 64, 1<<32 - 1}
	for i := range 4 {
		for _, at := range edges {
			for _, length := range edges {
				p := gapped()
				p.spans[i] = api.Span{At: at, Len: length}
				checkParse(t, p.file())
			}
		}
	}
}

// P8.4: two segments that lap at just one byte, and two that are neighbours.
func TestParseNeighbours(t *testing.T) {
	for i := range 4 {
		for j := range i {
			for off := uint32(0); off < 2; off++ {
				p := gapped()
				p.body = append(p.body, make([]byte, 200)...)
				p.spans[j] = api.Span{At: 150, Len: 8}
				p.spans[i] = api.Span{At: 158 - off, Len: 8}
				_, at, err := image.Parse(p.file())
				if lap := at == 16+8*i && err == api.ErrOverlap; lap != (off == 1) {
					t.Errorf("segments %d and %d, %d bytes in common: %d, %d", j, i, off, at, err)
				}
			}
		}
	}
}

// P8.4: a segment without bytes laps over nothing, wherever in the file it stands.
func TestParseEmptySegments(t *testing.T) {
	for at := uint32(0); at <= 64+11; at++ {
		p := planOf(api.Image{Code: smallCode(), Stack: 64}, 0)
		p.spans[1], p.spans[2], p.spans[3] = api.Span{At: at}, api.Span{At: at}, api.Span{At: 75 - at}
		im, place, err := image.Parse(p.file())
		if !sameImage(im, api.Image{Code: smallCode(), Stack: 64}) || place != 0 || err != api.OK {
			t.Errorf("at %d: %v, %d, %d", at, im, place, err)
		}
	}
}

// P8.4: code that is not as it must be, with the place in the file.
func TestParseCode(t *testing.T) {
	for _, x := range []struct {
		what  string
		code  []byte
		count uint32
		at    int
		err   api.Errno
	}{
		{"no operation", []byte{1, 10, 60}, 3, 2, api.ErrOp},
		{"an operand too great", []byte{1, 12, 15}, 2, 1, api.ErrOperand},
		{"cut off", []byte{1, 10, 8, 0, 0, 0}, 3, 2, api.ErrCut},
		{"too many", bytes.Repeat([]byte{1}, 16385), 16385, 16384, api.ErrInstrs},
	} {
		p := planOf(fullImage(), 5)
		p.spans[0] = api.Span{At: uint32(64 + len(p.body)), Len: uint32(len(x.code))}
		p.body = append(p.body, x.code...)
		p.count = x.count
		if _, at, err := image.Parse(p.file()); at != int(p.spans[0].At)+x.at || err != x.err {
			t.Errorf("%s: %d, %d", x.what, at, err)
		}
	}
	for _, count := range []uint32{0, 2, 4, 3 + 1<<16, 3 + 1<<31, 1<<32 - 1} {
		p := gapped()
		p.count = count
		if _, at, err := image.Parse(p.file()); at != 12 || err != api.ErrHeader {
			t.Errorf("count %d: %d, %d", count, at, err)
		}
	}
}

// P8.4: as many jumps as may be, and too many.
func TestParseJumps(t *testing.T) {
	for _, length := range []uint32{0, 1, 2, 3, 4, 5, 8, 65532, 65533, 65535, 65536, 65537, 65538, 65540, 131072} {
		p := planOf(api.Image{Stack: 64}, 0)
		p.body = bytes.Repeat([]byte{1, 2, 3, 4, 5}, 40000)
		p.spans[1] = api.Span{At: 65, Len: length}
		im, at, err := image.Parse(p.file())
		if length%4 != 0 || length > 65536 {
			if at != 28 || err != api.ErrTable || len(im.Jumps) != 0 {
				t.Errorf("%d bytes: %d, %d", length, at, err)
			}
			continue
		}
		if len(im.Jumps) != int(length/4) || at != 0 || err != api.OK {
			t.Errorf("%d bytes: %d jumps, %d, %d", length, len(im.Jumps), at, err)
		}
		checkParse(t, p.file())
	}
}

// P8.4: Stack and what is too much together, at their edges.
func TestParseSizes(t *testing.T) {
	for _, stack := range []uint32{0, 4, 60, 63, 64, 65, 66, 67, 68, 32764, 32767, 32768, 32769, 32772, 65536, 1 << 31, 1<<32 - 4, 1<<32 - 1} {
		for _, zero := range []uint32{0, 1, 32765, 32766, 65468, 65469, 65470, 1 << 31, 1<<32 - 67, 1<<32 - 64, 1<<32 - 1} {
			p := gapped()
			p.stack, p.zero = stack, zero
			checkParse(t, p.file())
		}
	}
	p := planOf(api.Image{Data: make([]byte, 65473), Stack: 64}, 0)
	if _, at, err := image.Parse(p.file()); at != 48 || err != api.ErrSize {
		t.Errorf("too much data: %d, %d", at, err)
	}
}

// namesFile gives a file with these bytes as its names, which begin at 64.
func namesFile(names []byte) []byte {
	p := planOf(api.Image{Stack: 64}, 0)
	p.spans[3] = api.Span{At: 64, Len: uint32(len(names))}
	p.body = append(slices.Clone(names), 9, 9, 9, 9, 9, 9, 9, 9)
	return p.file()
}

// P8.4: names at fault, with the place at which the entry begins.
func TestParseNames(t *testing.T) {
	entry := func(name string) string { return "\x01\x02\x03\x04" + string([]byte{byte(len(name))}) + name }
	for _, x := range []struct {
		names string
		at    int
	}{
		{"\x00\x00\x00\x00\x02a", 0}, {"\x00", 0}, {"\x00\x00\x00\x00", 0}, {"\x00\x00\x00\x00\x01", 0}, {entry(""), 0},
		{entry("a") + "\x00\x00\x00", 6}, {entry("a") + "\x00\x00\x00\x00", 6}, {entry("a") + "\x00\x00\x00\x00\x03bb", 6},
		{entry("a") + entry("a"), 6}, {entry("b") + entry("a"), 6}, {entry("ab") + entry("a"), 7}, {entry("a") + entry(""), 6},
		{entry("\x80") + entry("\x7f"), 6}, {entry("a") + entry("b") + entry("ab"), 12},
		{entry(strings.Repeat("x", 33)), 0}, {entry("a") + entry(strings.Repeat("x", 255)), 6},
		{entry("a") + entry("a") + "\x00", 6}, {entry("") + entry("a"), 0},
	} {
		if im, at, err := image.Parse(namesFile([]byte(x.names))); at != 64+x.at || err != api.ErrNames || !sameImage(im, api.Image{}) {
			t.Errorf("%q: %v, %d, %d", x.names, im, at, err)
		}
		checkParse(t, namesFile([]byte(x.names)))
	}
	whole := entry("a") + entry("a\x00") + entry(strings.Repeat("\xff", 32))
	want := []api.Export{{Name: "a", At: 0x04030201}, {Name: "a\x00", At: 0x04030201}, {Name: strings.Repeat("\xff", 32), At: 0x04030201}}
	if im, at, err := image.Parse(namesFile([]byte(whole))); !slices.Equal(im.Names, want) || at != 0 || err != api.OK {
		t.Errorf("names: %v, %d, %d", im.Names, at, err)
	}
}

// P8.4: as many entries as may be, and the one behind them, whole or cut off.
func TestParseManyNames(t *testing.T) {
	for _, count := range []int{63, 64, 65, 66} {
		var b []byte
		for _, name := range rising(count) {
			b = append(append(binary.LittleEndian.AppendUint32(b, 0), 3), name...)
		}
		im, at, err := image.Parse(namesFile(b))
		if count <= 64 && (len(im.Names) != count || at != 0 || err != api.OK) || count > 64 && (at != 64+64*8 || err != api.ErrNames) {
			t.Errorf("%d entries: %d, %d, %d", count, len(im.Names), at, err)
		}
		if count == 64 {
			if _, at, err := image.Parse(namesFile(append(b, 0))); at != 64+64*8 || err != api.ErrNames {
				t.Errorf("a byte behind the last entry that may be: %d, %d", at, err)
			}
		}
	}
}

// P8.4, P8.8: files that are spoiled here and there, sealed again. What Parse takes is an image that may be written down, and none of its files is shorter than the canonical one.
func TestParseScattered(t *testing.T) {
	words := scattered(40000)
	for i := range 8000 {
		w := words[i*4:]
		b := planOf(someImage(words[i:i+12+i%9]), int(w[0]%4)).file()
		for k := range w[1] % 3 {
			at := w[2+k] % uint32(len(b))
			if w[0]&1<<20 != 0 {
				at = 12 + at%52
			}
			b[at] = byte(w[3] >> (8 * k))
		}
		b = resealed(b)
		checkParse(t, b)
		checkBack(t, b)
	}
}

// checkBack holds what Parse takes against what Encode makes of it.
func checkBack(t *testing.T, b []byte) {
	t.Helper()
	im, _, err := image.Parse(b)
	if err != api.OK {
		return
	}
	canonical, err := image.Encode(im)
	if err != api.OK || len(canonical) > len(b) || image.Check(im) != api.OK {
		t.Fatalf("Encode of Parse(%x): %d bytes, %d", b, len(canonical), err)
	}
	if back, at, err := image.Parse(canonical); !sameImage(back, im) || at != 0 || err != api.OK {
		t.Fatalf("Parse of Encode: %v, %d, %d, want %v", back, at, err, im)
	}
}

// P8.9: no byte of a file that is read can be turned into another one.
func TestOneByteTurned(t *testing.T) {
	for _, p := range []plan{planOf(fullImage(), 0), gapped(), planOf(api.Image{Stack: 64}, 0)} {
		b := p.file()
		for at := range b {
			for turn := 1; turn < 256; turn++ {
				c := slices.Clone(b)
				c[at] ^= byte(turn)
				if im, _, err := image.Parse(c); err == api.OK {
					t.Fatalf("byte %d turned by %#x: %v", at, turn, im)
				}
			}
		}
	}
}

// P8.10: what lies between and behind the segments is read by nobody.
func TestOtherGaps(t *testing.T) {
	p := gapped()
	owned := make([]bool, 64+len(p.body))
	for _, s := range append(p.spans[:], api.Span{Len: 64}) {
		for at := s.At; at < s.At+s.Len; at++ {
			owned[at] = true
		}
	}
	words := scattered(50 * len(owned))
	for turn := range 50 {
		b := p.file()
		for at := range b {
			if !owned[at] {
				b[at] = byte(words[turn*len(owned)+at])
			}
		}
		sealed, err := image.Seal(b)
		if err != api.OK || !bytes.Equal(sealed, resealed(b)) {
			t.Fatalf("Seal: %d", err)
		}
		if im, at, err := image.Parse(sealed); !sameImage(im, fullImage()) || at != 0 || err != api.OK {
			t.Fatalf("Parse(%x): %v, %d, %d", sealed, im, at, err)
		}
	}
}

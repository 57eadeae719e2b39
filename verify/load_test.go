package verify_test

import (
	"encoding/binary"
	"slices"
	"testing"

	"playpen/api"
	"playpen/image"
	"playpen/verify"
)

// The chapter's example 3.
func TestExampleLoad(t *testing.T) {
	wantRefused(t, "63 bytes 0", make([]byte, 63), 63, api.ErrHeader)
	b, _ := image.Encode(sample(t))
	b[4] = 2
	b, _ = image.Seal(b)
	wantRefused(t, "version 2", b, 4, api.ErrVersion)
}

// laid gives the file of full with another word at a place of it, sealed.
func laid(t testing.TB, at int, word uint32) []byte {
	t.Helper()
	b := bytesBy(full(t), 0)
	binary.LittleEndian.PutUint32(b[at:], word)
	return sealed(b)
}

// turned gives the file of full with another byte at a place of it, sealed.
func turned(t testing.TB, at int, to byte) []byte {
	t.Helper()
	b := bytesBy(full(t), 0)
	b[at] = to
	return sealed(b)
}

// P15.2: each error of Parse, with its place.
func TestLoadFaults(t *testing.T) {
	b := bytesBy(full(t), 0)
	total := uint32(len(b))
	spans, _ := image.Segments(b)
	code, names := int(spans[0].At), int(spans[3].At)
	wantRefused(t, "no bytes", nil, 0, api.ErrHeader)
	wantRefused(t, "64 bytes 0", make([]byte, 64), 0, api.ErrHeader)
	wantRefused(t, "too many bytes", sealed(append(slices.Clone(b), make([]byte, api.MaxFile+1-len(b))...)), api.MaxFile, api.ErrHeader)
	for at := range 4 {
		wantRefused(t, "other first bytes", turned(t, at, 1), 0, api.ErrHeader)
		wantRefused(t, "another version", turned(t, 4+at, 2), 4, api.ErrVersion)
		sum := slices.Clone(b)
		sum[8+at]++
		wantRefused(t, "another sum", sum, 8, api.ErrImSum)
		wantRefused(t, "the first spare word", turned(t, 56+at, 1), 56, api.ErrSpare)
		wantRefused(t, "the second spare word", turned(t, 60+at, 1), 60, api.ErrSpare)
		place := 16 + 8*at
		wantRefused(t, "a segment beyond the end", laid(t, place, total+1), place, api.ErrSegment)
		wantRefused(t, "a segment too long", laid(t, place+4, 1<<32-1), place, api.ErrSegment)
		wantRefused(t, "a segment over the header", laid(t, place, 63), place, api.ErrOverlap)
	}
	wantRefused(t, "one instruction more", laid(t, 12, 22), 12, api.ErrHeader)
	wantRefused(t, "no operation", turned(t, code+3, 0), code+3, api.ErrOp)
	wantRefused(t, "an operand too great", turned(t, code+3+5+5+2, 0x40), code+3+5+5, api.ErrOperand)
	wantRefused(t, "the code cut off", laid(t, 20, spans[0].Len-1), code+int(spans[0].Len)-3, api.ErrCut)
	wantRefused(t, "half a jump", laid(t, 28, 10), 28, api.ErrTable)
	wantRefused(t, "the stack", laid(t, 52, 66), 52, api.ErrSize)
	wantRefused(t, "too much together", laid(t, 48, 65536-128-3), 48, api.ErrSize)
	wantRefused(t, "an empty name", turned(t, names+4, 0), names, api.ErrNames)
	wantRefused(t, "a name that falls", turned(t, names+6+5, 'A'), names+6, api.ErrNames)
	wantRefused(t, "names cut off", laid(t, 44, spans[3].Len-1), int(spans[3].At+spans[3].Len)-7, api.ErrNames)
}

// P15.2: too many instructions, and too many jumps.
func TestLoadTooMany(t *testing.T) {
	wantRefused(t, "instructions", bytesBy(from(t, "enter 4, "+times(16383, "nop")+"break"), 0), 64+3+16383, api.ErrInstrs)
	wantRefused(t, "jumps", bytesBy(from(t, "enter 4, break", make([]uint32, 16385)...), 0), 28, api.ErrTable)
}

// P15.2: a fault of Parse comes ahead of those of Take.
func TestLoadParsesFirst(t *testing.T) {
	for _, x := range wrongs() {
		im := strong(t)
		x.spoil(&im)
		if checkBy(im) != api.OK {
			continue
		}
		b := bytesBy(im, 0)
		wantRefused(t, x.what, b, x.at, x.err)
		binary.LittleEndian.PutUint32(b[60:], 1)
		wantRefused(t, x.what+", with a spare word", sealed(b), 60, api.ErrSpare)
		wantRefused(t, x.what+", and not sealed", b, 8, api.ErrImSum)
	}
}

// checkLoad holds Load against Parse and the oracle; it tells Load's error.
func checkLoad(t *testing.T, b []byte) api.Errno {
	t.Helper()
	im, at, err := image.Parse(b)
	want := verdict{at, err}
	var k known
	if err == api.OK {
		k, want = takeBy(im)
	}
	m, at, err := verify.Load(b)
	if (verdict{at, err}) != want || (m == nil) != (err != api.OK) {
		t.Fatalf("Load(%x): %d, %d, want %v", b[:min(len(b), 300)], at, err, want)
	}
	if err == api.OK {
		checkModule(t, im, m, k)
		checkSound(t, m)
	}
	return err
}

// P2, P15.2: bytes that are cut short.
func TestLoadCutShort(t *testing.T) {
	for _, im := range []api.Image{sample(t), full(t)} {
		b := bytesBy(im, 0)
		for n := range b {
			if err := checkLoad(t, b[:n]); err != api.ErrHeader && err != api.ErrImSum {
				t.Errorf("%d of %d bytes: %d", n, len(b), err)
			}
			if n >= 64 && checkLoad(t, sealed(b[:n])) == api.OK {
				t.Errorf("%d of %d bytes, sealed", n, len(b))
			}
		}
		if checkLoad(t, b) != api.OK {
			t.Errorf("%v does not load", im)
		}
	}
}

// P2, P15.2: one byte turned: never a module; sealed again, whatever its image is.
func TestLoadByteTurned(t *testing.T) {
	met := map[api.Errno]int{}
	for _, gap := range []int{0, 2} {
		b := bytesBy(full(t), gap)
		for at := range b {
			for value := range 256 {
				if byte(value) == b[at] {
					continue
				}
				c := slices.Clone(b)
				c[at] = byte(value)
				if m, _, err := verify.Load(c); m != nil || err == api.OK {
					t.Fatalf("byte %d turned to %d loads", at, value)
				}
				met[checkLoad(t, sealed(c))]++
			}
		}
	}
	for _, err := range []api.Errno{
		api.OK, api.ErrHeader, api.ErrVersion, api.ErrSpare, api.ErrSegment, api.ErrOverlap, api.ErrSize, api.ErrTable, api.ErrNames,
		api.ErrOp, api.ErrOperand, api.ErrFirst, api.ErrFrame, api.ErrTarget, api.ErrEnds, api.ErrJumpTo, api.ErrExport, api.ErrUnder, api.ErrMeet, api.ErrLeave,
	} {
		if met[err] == 0 {
			t.Errorf("error %d was not met", err)
		}
	}
}

// P15.7, P15.10: files that are not canonical load as the Module of their image, whose digest is that of the canonical bytes.
func TestLoadNotCanonical(t *testing.T) {
	for _, im := range []api.Image{sample(t), full(t)} {
		k, _ := takeBy(im)
		for gap := range 10 {
			b := bytesBy(im, gap)
			m, at, err := verify.Load(b)
			if m == nil || at != 0 || err != api.OK {
				t.Fatalf("gap %d: %d, %d", gap, at, err)
			}
			checkModule(t, im, m, k)
			if canonical, _ := image.Encode(m.Image()); m.Digest()%(1<<32) != uint64(len(b)-5*gap) || !slices.Equal(canonical, bytesBy(im, 0)) {
				t.Errorf("gap %d: %x", gap, m.Digest())
			}
		}
	}
}

// P2: over much scattered bytes: with some of a file's bytes turned, and sealed again.
func TestLoadScattered(t *testing.T) {
	d := &dice{words: scattered(99991)}
	loaded := 0
	for range 6000 {
		b := bytesBy(someImage(d, 10), d.upTo(1)*d.upTo(3))
		for range 1 + d.upTo(2) {
			b[16+d.upTo(len(b)-17)] = byte(d.upTo(255) >> (d.upTo(1) * d.upTo(7)))
		}
		if checkLoad(t, sealed(b)) == api.OK {
			loaded++
		}
		checkLoad(t, b)
	}
	if loaded < 300 || loaded > 5700 {
		t.Errorf("%d were loaded", loaded)
	}
	for n := range 400 {
		b := make([]byte, n)
		for i := range b {
			b[i] = byte(d.upTo(255))
		}
		if checkLoad(t, b) == api.OK {
			t.Errorf("%x", b)
		}
	}
}

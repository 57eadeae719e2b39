package verify_test

import (
	"bytes"
	"slices"
	"strconv"
	"strings"
	"testing"

	"playpen/api"
	"playpen/isa"
	"playpen/verify"
)

func in(op api.Op, arg uint32) api.Instr { return api.Instr{Op: op, Arg: arg} }

// lines gives the code of a text like "0 enter 4, 1 const 7, leave 4"; the indices may be left out, but may not be wrong.
func lines(t testing.TB, source string) []api.Instr {
	t.Helper()
	var code []api.Instr
	for line := range strings.SplitSeq(source, ",") {
		words := strings.Fields(line)
		if index, err := strconv.Atoi(words[0]); err == nil {
			if index != len(code) {
				t.Fatalf("%q stands at %d", line, len(code))
			}
			words = words[1:]
		}
		op, is := isa.ByWord(words[0])
		arg := 0
		if len(words) > 1 {
			arg, _ = strconv.Atoi(words[1])
		}
		if !is {
			t.Fatalf("%q is no instruction", line)
		}
		code = append(code, in(op, uint32(arg)))
	}
	return code
}

// times gives a text of so many of the same instruction, each with a comma behind it.
func times(count int, line string) string {
	return strings.Repeat(line+", ", count)
}

// from gives the image of a text's code, with jumps and nothing else but the least stack.
func from(t testing.TB, source string, jumps ...uint32) api.Image {
	t.Helper()
	return api.Image{Code: lines(t, source), Jumps: jumps, Stack: 64}
}

// sample gives the image of the chapter's examples.
func sample(t testing.TB) api.Image {
	t.Helper()
	im := from(t, "0 enter 8, 1 const 4, 2 call, 3 leave 8, 4 enter 4, 5 const 7, 6 leave 4")
	im.Names = []api.Export{{Name: "main", At: 0}}
	return im
}

// full gives an image with something in every part: jumps in both procedures, calls that are reached and calls that are not.
func full(t testing.TB) api.Image {
	t.Helper()
	im := from(t, `0 enter 16, 1 const 2, 2 const 3, 3 ltu 8, 4 const 8, 5 jump, 6 call, 7 break, 8 const 11, 9 call, 10 leave 16,
		11 enter 4, 12 const 14, 13 jump, 14 const 1, 15 const -1, 16 call, 17 add, 18 leave 4, 19 call, 20 goto 19`, 1, 8, 14)
	im.Data = []byte{7, 0, 9, 255}
	im.Zero = 300
	im.Stack = 128
	im.Names = []api.Export{{Name: "A", At: 11}, {Name: "a", At: 0}, {Name: "a\x00", At: 11}, {Name: "b\xff", At: 11}}
	return im
}

// cloned gives the same with lists of its own.
func cloned(im api.Image) api.Image {
	im.Code, im.Jumps, im.Data, im.Names = slices.Clone(im.Code), slices.Clone(im.Jumps), slices.Clone(im.Data), slices.Clone(im.Names)
	return im
}

// with gives the same image with another instruction at an index.
func with(im api.Image, at int, turned api.Instr) api.Image {
	im = cloned(im)
	im.Code[at] = turned
	return im
}

// sameImage holds two images against each other; nothing in a list is nil or no elements.
func sameImage(a, b api.Image) bool {
	return slices.Equal(a.Code, b.Code) && slices.Equal(a.Jumps, b.Jumps) && bytes.Equal(a.Data, b.Data) &&
		a.Zero == b.Zero && a.Stack == b.Stack && slices.Equal(a.Names, b.Names)
}

// mustTake gives the Module of an image that is well formed.
func mustTake(t testing.TB, im api.Image) *verify.Module {
	t.Helper()
	m, at, err := verify.Take(im)
	if m == nil || at != 0 || err != api.OK {
		t.Fatalf("Take(%v): %d, %d", im, at, err)
	}
	return m
}

// wantFault wants Take to refuse an image so, and to answer no Module.
func wantFault(t *testing.T, what string, im api.Image, at int, err api.Errno) {
	t.Helper()
	m, gotAt, gotErr := verify.Take(im)
	if m != nil || gotAt != at || gotErr != err {
		t.Errorf("%s: %d, %d, want %d, %d", what, gotAt, gotErr, at, err)
	}
	if _, by := takeBy(im); by != (verdict{at, err}) {
		t.Errorf("%s: by the chapters' words %v", what, by)
	}
}

// wantRefused wants Load to refuse a file so, and to answer no Module.
func wantRefused(t *testing.T, what string, b []byte, at int, err api.Errno) {
	t.Helper()
	m, gotAt, gotErr := verify.Load(b)
	if m != nil || gotAt != at || gotErr != err {
		t.Errorf("%s: %d, %d, want %d, %d", what, gotAt, gotErr, at, err)
	}
}

// beyond gives some words that are no index of any code.
func beyond() []uint32 {
	return []uint32{16384, 1 << 16, 1<<16 + 3, 1 << 31, 1<<31 + 3, 1<<32 - 2, 1<<32 - 1}
}

// indices gives those of code, and some words beyond it.
func indices(count int) []uint32 {
	list := beyond()
	for i := range count + 3 {
		list = append(list, uint32(i))
	}
	return list
}

// near gives words at which Legal is asked: all of short code, those near both ends of long code.
func near(count int) []uint32 {
	list := indices(min(count, 40))
	for i := max(40, count-10); i < count+2; i++ {
		list = append(list, uint32(i))
	}
	return list
}

// check holds Take against the oracle, and what its Module tells, and what follows; it tells Take's error.
func check(t *testing.T, im api.Image) api.Errno {
	t.Helper()
	k, want := takeBy(im)
	m, at, err := verify.Take(im)
	if (verdict{at, err}) != want || (m == nil) != (err != api.OK) {
		t.Fatalf("Take(%v): %d, %d, want %v", im, at, err, want)
	}
	if err == api.OK {
		checkModule(t, im, m, k)
		checkAgain(t, im, m, k)
		checkSound(t, m)
	}
	return err
}

// checkModule holds all that a Module tells against what is to be known of its image.
func checkModule(t *testing.T, im api.Image, m *verify.Module, k known) {
	t.Helper()
	if got := m.Image(); !sameImage(got, im) {
		t.Fatalf("%v: the image is %v", im, got)
	}
	if m.Bits() != bitsBy(im) || m.Count() != len(im.Code) || m.Digest() != digestBy(im) {
		t.Fatalf("%v: %d, %d, %x", im, m.Bits(), m.Count(), m.Digest())
	}
	if got := m.Procs(); !slices.Equal(got, k.procs) {
		t.Fatalf("%v: the procedures are %v, want %v", im, got, k.procs)
	}
	for _, i := range indices(len(im.Code)) {
		checkIndex(t, im, m, k, i)
	}
	checkLegal(t, im, m, k)
	checkEntries(t, im, m)
}

// holder gives the procedure in which an index lies; the zero one, if it lies in none.
func holder(list []api.Proc, i uint32) (api.Proc, bool) {
	for _, proc := range list {
		if proc.Begin <= i && i < proc.End {
			return proc, true
		}
	}
	return api.Proc{}, false
}

// checkIndex holds what a Module tells of an index against what is to be known of it.
func checkIndex(t *testing.T, im api.Image, m *verify.Module, k known, i uint32) {
	t.Helper()
	var one api.Instr
	depth := -1
	is := int64(i) < int64(len(im.Code))
	if is {
		one, depth = im.Code[i], k.depths[i]
	}
	if got, ok := m.At(i); got != one || ok != is {
		t.Fatalf("%v: At(%d): %v, %t", im, i, got, ok)
	}
	if got := m.Depth(i); got != depth {
		t.Fatalf("%v: Depth(%d): %d, want %d", im, i, got, depth)
	}
	want, is := holder(k.procs, i)
	if got, ok := m.ProcOf(i); got != want || ok != is {
		t.Fatalf("%v: ProcOf(%d): %v, %t, want %v", im, i, got, ok, want)
	}
	if got := m.Begins(i); got != (one.Op == api.OpEnter) {
		t.Fatalf("%v: Begins(%d): %t", im, i, got)
	}
	before := int64(i) - 1
	back := before >= 0 && before < int64(len(im.Code)) && im.Code[before].Op == api.OpCall && k.depths[before] >= 0
	if got := m.Back(i); got != back {
		t.Fatalf("%v: Back(%d): %t", im, i, got)
	}
}

// checkLegal holds Legal against chapter 13's words.
func checkLegal(t *testing.T, im api.Image, m *verify.Module, k known) {
	t.Helper()
	all := near(len(im.Code))
	for _, to := range all {
		target, _ := holder(k.procs, to)
		listed := slices.Contains(im.Jumps, to)
		for _, start := range all {
			proc, is := holder(k.procs, start)
			if got := m.Legal(start, to); got != (listed && is && proc == target) {
				t.Fatalf("%v: Legal(%d, %d): %t", im, start, to, got)
			}
		}
	}
}

// checkEntries holds Entry against the names, and against texts near to them that are no names.
func checkEntries(t *testing.T, im api.Image, m *verify.Module) {
	t.Helper()
	texts := []string{"", "main", "\x00", "\xff", strings.Repeat("z", 32), strings.Repeat("z", 33)}
	for _, entry := range im.Names {
		texts = append(texts, entry.Name, entry.Name+"\x00", entry.Name+"z", entry.Name[1:], entry.Name[:len(entry.Name)-1], strings.ToUpper(entry.Name))
	}
	for _, text := range texts {
		var want uint32
		i := slices.IndexFunc(im.Names, func(entry api.Export) bool { return entry.Name == text })
		if i >= 0 {
			want = im.Names[i].At
		}
		if got, is := m.Entry(text); got != want || is != (i >= 0) {
			t.Fatalf("%v: Entry(%q): %d, %t", im, text, got, is)
		}
	}
}

// scattered gives so many words, always the same ones, from all over.
func scattered(count int) []uint32 {
	list := make([]uint32, count)
	state := uint64(0x9E3779B97F4A7C15)
	for i := range list {
		state ^= state << 13
		state ^= state >> 7
		state ^= state << 17
		list[i] = uint32(state * 0x2545F4914F6CDD1D >> 32)
	}
	return list
}

// dice hands out scattered words one by one, over and over.
type dice struct {
	words []uint32
	next  int
}

func (d *dice) upTo(most int) int {
	d.next = (d.next + 1) % len(d.words)
	return int(uint64(d.words[d.next]) * uint64(most+1) >> 32)
}

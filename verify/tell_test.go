package verify_test

import (
	"hash/adler32"
	"strconv"
	"strings"
	"testing"

	"playpen/api"
	"playpen/image"
	"playpen/little"
	"playpen/verify"
)

// P15.3 to P15.5: at the first and the last index, at the number of instructions, beyond it and at the greatest word.
func TestEdges(t *testing.T) {
	m := mustTake(t, full(t))
	first, second := api.Proc{Begin: 0, End: 11, Frame: 16, Need: 2}, api.Proc{Begin: 11, End: 21, Frame: 4, Need: 2}
	for _, x := range []struct {
		i      uint32
		one    api.Instr
		is     bool
		proc   api.Proc
		begins bool
		depth  int
		back   bool
	}{
		{0, in(api.OpEnter, 16), true, first, true, 0, false},
		{1, in(api.OpConst, 2), true, first, false, 0, false},
		{3, in(api.OpLtu, 8), true, first, false, 2, false},
		{6, in(api.OpCall, 0), true, first, false, -1, false},
		{7, in(api.OpBreak, 0), true, first, false, -1, false},
		{9, in(api.OpCall, 0), true, first, false, 1, false},
		{10, in(api.OpLeave, 16), true, first, false, 1, true},
		{11, in(api.OpEnter, 4), true, second, true, 0, false},
		{16, in(api.OpCall, 0), true, second, false, 2, false},
		{17, in(api.OpAdd, 0), true, second, false, 2, true},
		{18, in(api.OpLeave, 4), true, second, false, 1, false},
		{20, in(api.OpGoto, 19), true, second, false, -1, false},
		{21, api.Instr{}, false, api.Proc{}, false, -1, false},
		{22, api.Instr{}, false, api.Proc{}, false, -1, false},
		{1 << 16, api.Instr{}, false, api.Proc{}, false, -1, false},
		{1<<16 + 11, api.Instr{}, false, api.Proc{}, false, -1, false},
		{1 << 31, api.Instr{}, false, api.Proc{}, false, -1, false},
		{1<<32 - 1, api.Instr{}, false, api.Proc{}, false, -1, false},
	} {
		if one, is := m.At(x.i); one != x.one || is != x.is {
			t.Errorf("At(%d): %v, %t", x.i, one, is)
		}
		if proc, is := m.ProcOf(x.i); proc != x.proc || is != x.is {
			t.Errorf("ProcOf(%d): %v, %t", x.i, proc, is)
		}
		if m.Begins(x.i) != x.begins || m.Depth(x.i) != x.depth || m.Back(x.i) != x.back {
			t.Errorf("%d: %t, %d, %t", x.i, m.Begins(x.i), m.Depth(x.i), m.Back(x.i))
		}
	}
	check(t, full(t))
}

// P15.4: Legal: to a jump of the same procedure, from each of its instructions, reached or not.
func TestLegal(t *testing.T) {
	m := mustTake(t, full(t))
	all := indices(21)
	for _, start := range all {
		for _, to := range all {
			want := start < 11 && (to == 1 || to == 8) || start >= 11 && start < 21 && to == 14
			if m.Legal(start, to) != want {
				t.Errorf("Legal(%d, %d): %t", start, to, !want)
			}
		}
	}
}

// P15.5: a return point stands behind a call that is reached, and nowhere else.
func TestBack(t *testing.T) {
	for _, x := range []struct {
		what  string
		im    api.Image
		backs string // one sign for each index: whether it is a return point
	}{
		{"behind a call", from(t, "0 enter 4, 1 const 0, 2 call, 3 leave 4"), "...b"},
		{"behind two calls", from(t, "0 enter 4, 1 const 0, 2 call, 3 call, 4 leave 4"), "...bb"},
		{"behind one that is not reached", from(t, "0 enter 4, 1 goto 1, 2 call, 3 break"), "...."},
		{"behind one that a jump may go to, but no jump is reached", from(t, "0 enter 4, 1 break, 2 call, 3 break", 2), "...."},
		{"behind one that a jump comes to", from(t, "0 enter 4, 1 const 1, 2 dup, 3 jump, 4 call, 5 leave 4", 4), ".....b"},
		{"behind one that a comparison comes to", from(t, "0 enter 4, 1 const 1, 2 dup, 3 dup, 4 eq 6, 5 break, 6 call, 7 break"), ".......b"},
		{"behind other instructions", from(t, "0 enter 4, 1 const 0, 2 dup, 3 pop, 4 neg, 5 leave 4"), "......"},
		{"a call in each procedure", from(t, "0 enter 4, 1 const 0, 2 call, 3 leave 4, 4 enter 8, 5 const -1, 6 call, 7 leave 8"), "...b...b"},
	} {
		m := mustTake(t, x.im)
		for _, i := range indices(len(x.im.Code)) {
			want := int64(i) < int64(len(x.backs)) && x.backs[i] == 'b'
			if m.Back(i) != want {
				t.Errorf("%s: Back(%d): %t", x.what, i, !want)
			}
			if want && m.Depth(i) < 1 {
				t.Errorf("%s: %d has the depth %d", x.what, i, m.Depth(i))
			}
		}
		check(t, x.im)
	}
}

// P15.6: Entry of each name, of names that are not there, and of the empty text.
func TestEntry(t *testing.T) {
	m := mustTake(t, full(t))
	for _, x := range []struct {
		name string
		at   uint32
		is   bool
	}{
		{"A", 11, true}, {"a", 0, true}, {"a\x00", 11, true}, {"b\xff", 11, true},
		{"", 0, false}, {"b", 0, false}, {"B", 0, false}, {"a\x01", 0, false}, {"aa", 0, false}, {"b\xff\x00", 0, false},
		{"@", 0, false}, {"z", 0, false}, {"\x00", 0, false}, {"\xff", 0, false}, {strings.Repeat("a", 33), 0, false},
	} {
		if at, is := m.Entry(x.name); at != x.at || is != x.is {
			t.Errorf("Entry(%q): %d, %t", x.name, at, is)
		}
	}
	if at, is := mustTake(t, from(t, "enter 4, break")).Entry(""); at != 0 || is {
		t.Errorf("%d, %t", at, is)
	}
}

// P15.6: as many names as may be, the longest ones too.
func TestEntries(t *testing.T) {
	im := from(t, times(63, "enter 4, break")+"enter 4, break")
	for i := range 64 {
		im.Names = append(im.Names, api.Export{Name: strings.Repeat(string([]byte{byte(4*i + 1)}), 1+i%32), At: uint32(126 - 2*i)})
	}
	m := mustTake(t, im)
	for _, entry := range im.Names {
		if at, is := m.Entry(entry.Name); at != entry.At || !is {
			t.Errorf("Entry(%q): %d, %t", entry.Name, at, is)
		}
	}
	check(t, im)
}

// P15.4: needs, from none to as many words as may be, also where only an instruction's end has them.
func TestNeeds(t *testing.T) {
	for _, x := range []struct {
		source string
		need   int
	}{
		{"enter 4, break", 0},
		{"enter 4, goto 1", 0},
		{"enter 4, nop, break, const 1, const 2, break", 0},
		{"enter 4, const 1, leave 4", 1},
		{"enter 4, const 1, break", 1},
		{"enter 4, const 1, dup, break", 2},
		{"enter 4, const 1, const 2, pop, leave 4", 2},
		{"enter 4, " + times(63, "const 1") + "break", 63},
		{"enter 4, " + times(64, "const 1") + "break", 64},
		{"enter 4, " + times(63, "const 1") + "dup, " + times(63, "add") + "leave 4", 64},
	} {
		im := from(t, x.source)
		m := mustTake(t, im)
		want := api.Proc{Begin: 0, End: uint32(len(im.Code)), Frame: 4, Need: x.need}
		if list := m.Procs(); len(list) != 1 || list[0] != want {
			t.Errorf("%s: %v", x.source, list)
		}
		if proc, is := m.ProcOf(uint32(len(im.Code) - 1)); proc != want || !is {
			t.Errorf("%s: %v, %t", x.source, proc, is)
		}
		check(t, im)
	}
	wantFault(t, "65 words", from(t, "enter 4, "+times(64, "const 1")+"dup, break"), 65, api.ErrOver)
}

// P15.4: several procedures, each with a need and a frame of its own.
func TestManyProcs(t *testing.T) {
	source, begin := "", uint32(0)
	var want []api.Proc
	for need := range 65 {
		frame := uint32(4 + 60*need)
		source += "enter " + strconv.Itoa(int(frame)) + ", " + times(need, "const 1") + "break, "
		end := begin + uint32(need) + 2
		want = append(want, api.Proc{Begin: begin, End: end, Frame: frame, Need: need})
		begin = end
	}
	im := from(t, strings.TrimSuffix(source, ", "))
	list := mustTake(t, im).Procs()
	for i, proc := range want {
		if len(list) != len(want) || list[i] != proc {
			t.Fatalf("%v, want %v", list, want)
		}
	}
	check(t, im)
}

// P15.3: k at each edge.
func TestBits(t *testing.T) {
	for k := 8; k <= 16; k++ {
		for _, data := range []int{0, 1, 100} {
			im := sample(t)
			im.Data = make([]byte, data)
			im.Zero = uint32(1<<k - 64 - data)
			if got := mustTake(t, im).Bits(); got != k {
				t.Errorf("2^%d bytes: %d", k, got)
			}
			im.Zero++
			if k == 16 {
				wantFault(t, "too much", im, 0, api.ErrSize)
			} else if got := mustTake(t, im).Bits(); got != k+1 {
				t.Errorf("2^%d bytes and one: %d", k, got)
			}
		}
	}
}

// P15.7: the sum of the canonical bytes, and their number.
func TestDigest(t *testing.T) {
	d := &dice{words: scattered(9973)}
	list := []api.Image{sample(t), full(t), strong(t)}
	for range 300 {
		list = append(list, someImage(d, 20))
	}
	seen := map[uint64]api.Image{}
	for _, im := range list {
		b, err := image.Encode(im)
		if err != api.OK {
			t.Fatalf("%v: %d", im, err)
		}
		got := mustTake(t, im).Digest()
		if got>>32 != uint64(little.Sum(b)) || got%(1<<32) != uint64(len(b)) || got>>32 != uint64(adler32.Checksum(b)) {
			t.Errorf("%v: %x", im, got)
		}
		if other, is := seen[got]; is && !sameImage(other, im) {
			t.Errorf("%v and %v have one digest", im, other)
		}
		seen[got] = im
	}
	// By hand: 64 bytes of header, and 3 and 1 of code.
	if got := mustTake(t, from(t, "enter 4, break")).Digest(); got%(1<<32) != 68 {
		t.Errorf("%x", got)
	}
}

// wantNothing wants a Module that was not made to tell nothing.
func wantNothing(t *testing.T, what string, m *verify.Module) {
	t.Helper()
	if im := m.Image(); !sameImage(im, api.Image{}) {
		t.Errorf("%s: %v", what, im)
	}
	if m.Bits() != 0 || m.Count() != 0 || m.Digest() != 0 || len(m.Procs()) != 0 {
		t.Errorf("%s: %d, %d, %x, %v", what, m.Bits(), m.Count(), m.Digest(), m.Procs())
	}
	for _, i := range indices(8) {
		if one, is := m.At(i); one != (api.Instr{}) || is {
			t.Errorf("%s: At(%d): %v, %t", what, i, one, is)
		}
		if proc, is := m.ProcOf(i); proc != (api.Proc{}) || is {
			t.Errorf("%s: ProcOf(%d): %v, %t", what, i, proc, is)
		}
		if m.Begins(i) || m.Back(i) || m.Depth(i) != -1 {
			t.Errorf("%s: %d: %t, %t, %d", what, i, m.Begins(i), m.Back(i), m.Depth(i))
		}
		for _, to := range indices(20) {
			if m.Legal(i, to) {
				t.Errorf("%s: Legal(%d, %d)", what, i, to)
			}
		}
	}
	for _, name := range []string{"", "main", "a", "A"} {
		if at, is := m.Entry(name); at != 0 || is {
			t.Errorf("%s: Entry(%q): %d, %t", what, name, at, is)
		}
	}
}

// P15.8: a Module that is nil, one that was not made, a copy by hand.
func TestNothing(t *testing.T) {
	wantNothing(t, "nil", nil)
	wantNothing(t, "a zero one", &verify.Module{})
	wantNothing(t, "a new one", new(verify.Module))
	for _, im := range []api.Image{sample(t), full(t)} {
		made := mustTake(t, im)
		byHand := *made
		wantNothing(t, "a copy by hand", &byHand)
		k, _ := takeBy(im)
		checkModule(t, im, made, k)
		other := mustTake(t, from(t, "enter 4, break"))
		*other = *made
		wantNothing(t, "one written over by another", other)
		checkModule(t, im, made, k)
		loaded, _, _ := verify.Load(bytesBy(im, 0))
		byHand = *loaded
		wantNothing(t, "a copy of one that was loaded", &byHand)
		checkModule(t, im, loaded, k)
	}
}

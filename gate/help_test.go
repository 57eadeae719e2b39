package gate_test

import (
	"bytes"
	"slices"
	"testing"

	"playpen/api"
	"playpen/gate"
	"playpen/mem"
)

func grant(number uint32, args int) api.Grant { return api.Grant{Number: number, Args: args} }

// row gives grants of the numbers 0, 1, .., with 0 to 15 words.
func row(count int) []api.Grant {
	var list []api.Grant
	for i := range count {
		list = append(list, grant(uint32(i), i%16))
	}
	return list
}

// mustNew gives the gate of grants that may be.
func mustNew(t testing.TB, grants ...api.Grant) *gate.Gate {
	t.Helper()
	g, err := gate.New(grants)
	if g == nil || err != api.OK {
		t.Fatalf("New(%v): %d", grants, err)
	}
	return g
}

// mustLess gives what a gate leaves without some numbers.
func mustLess(t testing.TB, g *gate.Gate, numbers ...uint32) *gate.Gate {
	t.Helper()
	left, err := g.Less(numbers...)
	if left == nil || err != api.OK {
		t.Fatalf("Less(%v): %d", numbers, err)
	}
	return left
}

// refused wants New to answer ErrGrant and nothing else.
func refused(t testing.TB, grants ...api.Grant) {
	t.Helper()
	if g, err := gate.New(grants); g != nil || err != api.ErrGrant {
		t.Errorf("New(%v): %v, %d", grants, g, err)
	}
}

// unmade gives gates that are nil or that neither New nor Less made.
func unmade(t testing.TB) map[string]*gate.Gate {
	byHand := *mustNew(t, grant(0, 0), grant(7, 2))
	ofLess := *mustLess(t, mustNew(t, grant(0, 0), grant(7, 2), grant(9, 1)), 9)
	ofNone := *mustNew(t)
	return map[string]*gate.Gate{"nil": nil, "a zero value": new(gate.Gate), "a copy by hand": &byHand,
		"a copy of what Less gave": &ofLess, "a copy of one without grants": &ofNone}
}

// filled gives so many bytes, each unlike its neighbours.
func filled(count int) []byte {
	b := make([]byte, count)
	for i := range b {
		b[i] = byte(i*7 + i>>8*13 + 1)
	}
	return b
}

// memory gives a segment of bytes.
func memory(t testing.TB, b []byte) *mem.Memory {
	t.Helper()
	m, err := mem.From(b)
	if m == nil || err != api.OK {
		t.Fatalf("From of %d bytes: %d", len(b), err)
	}
	return m
}

// unmadeMemories gives segments that are nil or that no function of mem made.
func unmadeMemories(t testing.TB) map[string]*mem.Memory {
	byHand := *memory(t, filled(256))
	return map[string]*mem.Memory{"nil": nil, "a zero value": new(mem.Memory), "a copy by hand": &byHand}
}

// write gives a write of bytes at an address.
func write(at uint32, b ...byte) api.Write { return api.Write{At: at, Bytes: b} }

// reply gives one with writes.
func reply(value uint32, writes ...api.Write) api.Reply {
	return api.Reply{Value: value, Writes: writes}
}

// tooMany and tooLong give the two replies that just do not fit.
func tooMany() api.Reply { return api.Reply{Writes: make([]api.Write, 17)} }
func tooLong() api.Reply { return reply(1, write(0, 1), write(5, make([]byte, 257)...)) }

// sameEvent holds two events against each other; nothing in a list is nil or no elements.
func sameEvent(a, b api.Event) bool {
	return a.At == b.At && a.Number == b.Number && slices.Equal(a.Args, b.Args) && a.Value == b.Value
}

// fitsBy tells whether a reply fits, by the chapter's words.
func fitsBy(r api.Reply) bool {
	return len(r.Writes) <= 16 && !slices.ContainsFunc(r.Writes, func(w api.Write) bool { return len(w.Bytes) > 256 })
}

// place tells the number of the byte that is so far behind an address.
func place(data []byte, at uint32, behind int) int {
	return int((uint64(at) + uint64(behind)) % (1 << 32) % uint64(len(data)))
}

// wordsBy gives the words of a call and the bytes that they touch, byte by byte.
func wordsBy(data []byte, sp uint32, count int) (words []uint32, touched []api.Touch) {
	for i := range count {
		word, weight := uint32(0), uint32(1)
		for b := range 4 {
			at := place(data, sp, 4+4*i+b)
			word += uint32(data[at]) * weight
			weight *= 256
			touched = append(touched, api.Touch{At: uint32(at)})
		}
		words = append(words, word)
	}
	return words, touched
}

// applyBy lays a reply's writes into bytes, one byte after the other, and tells what they touch.
func applyBy(data []byte, r api.Reply) (touched []api.Touch) {
	for _, w := range r.Writes {
		for i, x := range w.Bytes {
			at := place(data, w.At, i)
			data[at] = x
			touched = append(touched, api.Touch{At: uint32(at), Write: true})
		}
	}
	return touched
}

// checkGate holds what a gate tells of itself against the grants that it must have, which stand in any order.
func checkGate(t testing.TB, g *gate.Gate, grants []api.Grant) {
	t.Helper()
	want := slices.Clone(grants)
	slices.SortFunc(want, func(a, b api.Grant) int { return int(int64(a.Number) - int64(b.Number)) })
	if got := g.Grants(); !slices.Equal(got, want) {
		t.Fatalf("Grants of %v: %v", want, got)
	}
	numbers := []uint32{0, 1, 7, 63, 64, 1<<31 - 1, 1 << 31, 1<<31 + 7, 1<<32 - 1}
	for _, x := range want {
		numbers = append(numbers, x.Number-1, x.Number, x.Number+1, x.Number^1<<31, ^x.Number)
	}
	for _, number := range numbers {
		args, is := argsBy(want, number)
		if got, ok := g.Granted(number); got != args || ok != is {
			t.Fatalf("%v: Granted(%d): %d, %t", want, number, got, ok)
		}
	}
}

// argsBy tells the Args of the grant of a number.
func argsBy(grants []api.Grant, number uint32) (int, bool) {
	i := slices.IndexFunc(grants, func(x api.Grant) bool { return x.Number == number })
	if i < 0 {
		return 0, false
	}
	return grants[i].Args, true
}

// checkWords holds Words, and what it touches, against the chapter's words; the memory stays as it is.
func checkWords(t testing.TB, g *gate.Gate, data []byte, sp, number uint32) {
	t.Helper()
	m := memory(t, data)
	m.Log(true)
	count, granted := g.Granted(number)
	want, touched := wordsBy(data, sp, count)
	if got, is := g.Words(m, sp, number); !slices.Equal(got, want) || is != granted {
		t.Fatalf("Words(%d bytes, %#x, %d): %x, %t, want %x, %t", len(data), sp, number, got, is, want, granted)
	}
	if got := m.Touched(); !slices.Equal(got, touched) {
		t.Fatalf("Words(%d bytes, %#x, %d) touched %v, want %v", len(data), sp, number, got, touched)
	}
	if !bytes.Equal(m.Bytes(), data) {
		t.Fatalf("Words(%d bytes, %#x, %d) wrote", len(data), sp, number)
	}
}

// checkApply holds Apply, and what it touches, against the chapter's words; a reply that does not fit stores and touches nothing.
func checkApply(t testing.TB, g *gate.Gate, data []byte, r api.Reply) {
	t.Helper()
	m := memory(t, data)
	m.Log(true)
	want := slices.Clone(data)
	wantErr := api.ErrReply
	var touched []api.Touch
	if fitsBy(r) {
		wantErr = api.OK
		touched = applyBy(want, r)
	}
	if err := g.Apply(m, r); err != wantErr {
		t.Fatalf("Apply(%d bytes, %v): %d, want %d", len(data), r, err, wantErr)
	}
	if got := m.Touched(); !slices.Equal(got, touched) {
		t.Fatalf("Apply(%d bytes, %v) touched %v, want %v", len(data), r, got, touched)
	}
	if got := m.Bytes(); !bytes.Equal(got, want) {
		t.Fatalf("Apply(%d bytes, %v): %v, want %v", len(data), r, got, want)
	}
}

// spoil writes over all of a list, its spare room too.
func spoil[E any](list []E, with E) {
	list = list[:cap(list)]
	for i := range list {
		list[i] = with
	}
}

// scattered gives so many words, always the same ones, from all over.
func scattered(count int) []uint32 {
	list := make([]uint32, count)
	state := uint64(0x9E3779B97F4A7C15)
	for i := range list {
		state ^= state << 13
		state ^= state >> 7
		state ^= state << 17
		list[i] = uint32(state * 0x2545F4914F6CDD1D >> 32)
	}
	return list
}

// dice gives numbers out of a row of words, always the same ones.
type dice struct {
	words []uint32
	next  int
}

func newDice(next int) *dice { return &dice{words: scattered(9973), next: next % 9973} }

func (d *dice) word() uint32 {
	d.next = (d.next + 1) % len(d.words)
	return d.words[d.next]
}

func (d *dice) upTo(most int) int {
	return int(uint64(d.word()) * uint64(most+1) >> 32)
}

// someNumber gives one that may be granted: most of them are small, so that lists of them meet.
func (d *dice) someNumber() uint32 {
	switch d.upTo(4) {
	case 0:
		return d.word() >> 1
	case 1:
		return 1<<31 - 1 - uint32(d.upTo(3))
	}
	return uint32(d.upTo(12))
}

// someGrants gives up to so many grants that may be, in no order.
func (d *dice) someGrants(most int) []api.Grant {
	var list []api.Grant
	for range d.upTo(most) {
		x := grant(d.someNumber(), d.upTo(15))
		if _, known := argsBy(list, x.Number); !known {
			list = append(list, x)
		}
	}
	return list
}

// someAddress gives one from all over, or near the ends of a segment and of the words' range.
func (d *dice) someAddress(size int) uint32 {
	switch d.upTo(2) {
	case 0:
		return d.word()
	case 1:
		return uint32(size) - uint32(d.upTo(40)) + 20
	}
	return uint32(d.upTo(80)) - 40
}

// someReply gives one that fits: its writes meet often.
func (d *dice) someReply(size int) api.Reply {
	r := api.Reply{Value: d.word()}
	at := d.someAddress(size)
	for range d.upTo(16) {
		if d.upTo(2) == 0 {
			at = d.someAddress(size)
		}
		b := make([]byte, d.upTo([]int{3, 20, 256}[d.upTo(2)]))
		for i := range b {
			b[i] = byte(d.word())
		}
		r.Writes = append(r.Writes, api.Write{At: at + uint32(d.upTo(9)), Bytes: b})
	}
	return r
}

// someData gives the bytes of a segment of some size.
func (d *dice) someData() []byte {
	b := make([]byte, 1<<(8+d.upTo(3)))
	for i := range b {
		b[i] = byte(d.word())
	}
	return b
}

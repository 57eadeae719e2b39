package host_test

import (
	"bytes"
	"math"
	"slices"
	"strings"
	"testing"

	"playpen/api"
	"playpen/gate"
	"playpen/host"
	"playpen/mem"
)

// none is -1 as a value.
const none = 0xFFFFFFFF

// mustLoad gives the host of a state that may be.
func mustLoad(t testing.TB, s api.HostState) *host.Host {
	t.Helper()
	h, err := host.Load(s)
	if h == nil || err != api.OK {
		t.Fatalf("Load: %d", err)
	}
	return h
}

// full gives a host whose console has so many bytes.
func full(t testing.TB, count int) *host.Host {
	t.Helper()
	return mustLoad(t, api.HostState{Console: bytes.Repeat([]byte{'.'}, count), Seed: 1})
}

// crowded gives a host with so many variables: v00, v01, ..
func crowded(t testing.TB, count int) *host.Host {
	t.Helper()
	return mustLoad(t, api.HostState{Vars: vars(count), Seed: 1})
}

// vars gives so many variables, rising by name.
func vars(count int) []api.Var {
	var list []api.Var
	for i := range count {
		list = append(list, api.Var{Name: "v" + string(rune('0'+i/10)) + string(rune('0'+i%10)), Value: uint32(i) * 0x01010101})
	}
	return list
}

// unmade gives hosts that are nil or that neither New nor Load made.
func unmade(t testing.TB) map[string]*host.Host {
	t.Helper()
	ofNew := *host.New(7)
	ofLoad := *mustLoad(t, api.HostState{Console: []byte("hi"), Vars: vars(3), Seed: 9, Clock: 4})
	return map[string]*host.Host{"nil": nil, "a zero value": new(host.Host), "a copy by hand": &ofNew, "a copy of what Load gave": &ofLoad}
}

// ask wants an answer and gives it.
func ask(t testing.TB, h *host.Host, data []byte, number uint32, args ...uint32) api.Reply {
	t.Helper()
	r, err := h.Answer(data, api.Event{Number: number, Args: args})
	if err != api.OK {
		t.Fatalf("%s %x: %d", host.Word(number), args, err)
	}
	return r
}

// tells wants an answer of a value without a write.
func tells(t testing.TB, h *host.Host, data []byte, value, number uint32, args ...uint32) {
	t.Helper()
	if r := ask(t, h, data, number, args...); r.Value != value || len(r.Writes) != 0 {
		t.Errorf("%s %x: %v, want %#x", host.Word(number), args, r, value)
	}
}

// writes wants an answer of the value 1 with one write.
func writes(t testing.TB, h *host.Host, data []byte, at uint32, b []byte, number uint32, args ...uint32) {
	t.Helper()
	r := ask(t, h, data, number, args...)
	if !sameReply(r, api.Reply{Value: 1, Writes: []api.Write{{At: at, Bytes: b}}}) {
		t.Errorf("%s %x: %v, want % x at %#x", host.Word(number), args, r, b, at)
	}
}

// lays wants an answer of the value 1 with one write of points, handed over as their parts' words.
func lays(t testing.TB, h *host.Host, data []byte, at uint32, parts []uint32, number uint32, args ...uint32) {
	t.Helper()
	var b []byte
	for _, part := range parts {
		b = append(b, bytesBy(part)...)
	}
	writes(t, h, data, at, b, number, args...)
}

// consoleIs wants a console.
func consoleIs(t testing.TB, h *host.Host, want string) {
	t.Helper()
	if got := h.Console(); got != want {
		t.Errorf("the console: %q, want %q", got, want)
	}
	if got := h.State().Console; string(got) != want {
		t.Errorf("the state's console: %q, want %q", got, want)
	}
}

// with gives a segment of noughts, with bytes laid in from an address on, each masked by itself.
func with(size int, at uint32, b []byte) []byte {
	data := make([]byte, size)
	for i, x := range b {
		data[place(data, at, i)] = x
	}
	return data
}

// text gives a segment of 1024 bytes with a text at 100 and what is no nought all around, but for the nought behind the text.
func text(s string) []byte {
	data := bytes.Repeat([]byte{'~'}, 1024)
	copy(data[100:], s+"\x00")
	return data
}

// words gives a segment with words from an address on.
func words(size int, at uint32, list ...uint32) []byte {
	var b []byte
	for _, word := range list {
		b = append(b, bytesBy(word)...)
	}
	return with(size, at, b)
}

// place tells the number of the byte that is so far behind an address.
func place(data []byte, at uint32, behind int) int {
	return int((uint64(at) + uint64(behind)) % (1 << 32) % uint64(len(data)))
}

// f gives the word of a number.
func f(x float32) uint32 { return math.Float32bits(x) }

// sameReply holds two replies against each other.
func sameReply(a, b api.Reply) bool {
	return a.Value == b.Value && slices.EqualFunc(a.Writes, b.Writes, func(x, y api.Write) bool { return x.At == y.At && bytes.Equal(x.Bytes, y.Bytes) })
}

// sameState holds two states against each other; nothing in a list is nil or no elements.
func sameState(a, b api.HostState) bool {
	return bytes.Equal(a.Console, b.Console) && slices.Equal(a.Vars, b.Vars) && a.Seed == b.Seed && a.Clock == b.Clock
}

// clonedState gives the same with lists of its own.
func clonedState(s api.HostState) api.HostState {
	s.Console, s.Vars = slices.Clone(s.Console), slices.Clone(s.Vars)
	return s
}

// applied gives what a reply makes of data, by way of a gate.
func applied(t testing.TB, data []byte, r api.Reply) []byte {
	t.Helper()
	m, err := mem.From(data)
	if err != api.OK {
		t.Fatal(err)
	}
	g, err := gate.New(host.Grants())
	if err != api.OK {
		t.Fatal(err)
	}
	if err := g.Apply(m, r); err != api.OK {
		t.Fatalf("%v does not fit: %d", r, err)
	}
	return m.Bytes()
}

// spoil writes over all of a list, its spare room too.
func spoil[E any](list []E, with E) {
	list = list[:cap(list)]
	for i := range list {
		list[i] = with
	}
}

// dice gives numbers from all over, always the same ones.
type dice struct{ state uint64 }

func newDice(start uint64) *dice { return &dice{state: start*0xBF58476D1CE4E5B9 + 0x9E3779B97F4A7C15} }

func (d *dice) long() uint64 {
	d.state += 0x9E3779B97F4A7C15
	x := d.state
	x = (x ^ x>>30) * 0xBF58476D1CE4E5B9
	x = (x ^ x>>27) * 0x94D049BB133111EB
	return x ^ x>>31
}

func (d *dice) word() uint32 { return uint32(d.long() >> 32) }

func (d *dice) upTo(most int) int { return int(uint64(d.word()) * uint64(most+1) >> 32) }

// somePart gives the word of a part: often one of few, so that points have noughts, meet, and are like one another.
func (d *dice) somePart() uint32 {
	edges := []uint32{0, 1 << 31, f(1), f(-1), f(2), f(0.5), f(-1.5), f(3), f(1e20), f(-3e38), 0x7F7FFFFF, 0x7F800000, 0xFF800000, api.NaN, 0xFFC00001, 0x7F800001, 1, 0x80000001, 0x00800000, f(0.1), 0x4B800001}
	if i := d.upTo(len(edges) + 6); i < len(edges) {
		return edges[i]
	}
	return d.word()
}

// someText gives a text: a number, a name, runes, bytes from all over; without noughts.
func (d *dice) someText() string {
	pieces := []string{"a", "b", "x", "v01", "hi\n", "\x07", "\u007f", "\u009f", "\u00a0", "\u00e9", "\u20ac", "\U0001F600", "\uFFFD", "\xff", "\xc3", "\xed\xa0\x80", "~"}
	figures := []string{"0", "41", "-1", "0xff", "0b101", "4294967295", "4294967296", "-2147483648", "1.5", "-0.0", "1e39", "1e-50", "nan", "-inf", "0x1.8p3", "007", "-", "0x"}
	switch d.upTo(4) {
	case 0:
		return figures[d.upTo(len(figures)-1)]
	case 1:
		return strings.Repeat(pieces[d.upTo(3)], d.upTo(3))
	case 2:
		return strings.Repeat(pieces[d.upTo(len(pieces)-1)], d.upTo(300))
	}
	var s strings.Builder
	for range d.upTo(20) {
		s.WriteString(pieces[d.upTo(len(pieces)-1)])
	}
	return s.String()
}

// someAddress gives one near the beginning, where someData has its texts and points, near the ends of a segment and of the words' range, or from all over.
func (d *dice) someAddress(size int) uint32 {
	switch d.upTo(5) {
	case 0:
		return d.word()
	case 1:
		return uint32(size) - uint32(d.upTo(40)) + 20
	case 2:
		return uint32(d.upTo(80)) - 40
	case 3:
		return uint32(d.upTo(40)) * 8
	}
	return uint32(d.upTo(10)) * 64
}

// someData gives a segment of some size with texts at the multiples of 64, with points in between, or without noughts.
func (d *dice) someData() []byte {
	data := make([]byte, 1<<(8+d.upTo(2)))
	switch d.upTo(5) {
	case 0:
		for i := range data {
			data[i] = byte(1 + d.upTo(254))
		}
	case 1:
		for i := range data {
			data[i] = byte(d.word())
		}
	}
	for at := 0; at < len(data); at += 64 {
		for i, x := range []byte(d.someText() + "\x00") {
			data[place(data, uint32(at), i)] = x
		}
		for i := range 4 {
			copy(data[at+32+8*i:], bytesBy(d.somePart(), d.somePart()))
		}
	}
	return data
}

// someArgs gives the words of a call of a number.
func (d *dice) someArgs(number uint32, size int) []uint32 {
	args := make([]uint32, countBy(number))
	for i := range args {
		args[i] = d.someAddress(size)
	}
	switch number {
	case api.CallPut:
		args[0] = []uint32{10, 31, 32, 'a', 0x7F, 0xE9, 0x20AC, 0xD800, 0x1F600, 0x110000, d.word() >> 11}[d.upTo(10)]
	case api.CallInt, api.CallHex, api.CallSeed:
		args[0] = []uint32{0, 1, none, d.word()}[d.upTo(3)]
	case api.CallRandom:
		args[0] = []uint32{0, 1, 2, none, d.word() >> d.upTo(31)}[d.upTo(4)]
	case api.CallFloat, api.CallSqrt, api.CallFloor, api.CallAbs:
		args[0] = d.somePart()
	case api.CallSet:
		args[1] = d.word()
	case api.CallTurn:
		args[2] = []uint32{0, 1, 2, 3, none, d.word()}[d.upTo(5)]
	case api.CallWave:
		args[2] = []uint32{0, 1, 2, 3, 4, 8, 9, 16, none, d.word()}[d.upTo(9)]
	}
	return args
}

// someState gives a state that a host may hold: consoles are often nearly full, names are few, so that they meet texts.
func (d *dice) someState() api.HostState {
	s := api.HostState{Seed: 1 + d.long()>>1, Clock: d.word()}
	if d.upTo(1) == 0 {
		s.Console = bytes.Repeat([]byte{byte(d.word())}, 4096-d.upTo([]int{3, 12, 300, 4096}[d.upTo(3)]))
	}
	names := []string{"a", "b", "x", "aa", "bb", "xx", "aaa", "v01", "41", "hi\n", "\xff", "~", "0"}
	for range d.upTo(12) {
		s.Vars = append(s.Vars, api.Var{Name: names[d.upTo(len(names)-1)], Value: d.word()})
	}
	if d.upTo(2) == 0 {
		s.Vars = append(s.Vars, vars(32)[d.upTo(32):]...)
	}
	slices.SortStableFunc(s.Vars, func(a, b api.Var) int { return strings.Compare(a.Name, b.Name) })
	s.Vars = slices.CompactFunc(s.Vars, func(a, b api.Var) bool { return a.Name == b.Name })
	s.Vars = s.Vars[:min(len(s.Vars), 32)]
	return s
}

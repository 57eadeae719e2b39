package host_test

import (
	"bytes"
	"fmt"
	"math"
	"math/big"
	"slices"
	"strings"
	"testing"
	"unicode/utf8"

	"playpen/api"
	"playpen/figure"
	"playpen/gate"
	"playpen/host"
	"playpen/single"
)

// table is the library's table as the chapter has it: number, word, how many words.
const table = `16 print 1
17 put 1
18 int 1
19 hex 1
20 float 1
21 clear 0
22 length 1
23 runes 1
24 parse 2
25 parsef 2
26 get 2
27 set 2
28 seed 1
29 random 1
30 clock 0
31 sqrt 1
32 floor 1
33 abs 1
34 add 3
35 mul 3
36 div 3
37 turn 3
38 far 1
39 wave 3`

// countBy tells how many words a call of the library has.
func countBy(number uint32) int {
	var n uint32
	var word string
	var count int
	for line := range strings.SplitSeq(table, "\n") {
		if fmt.Sscan(line, &n, &word, &count); n == number {
			return count
		}
	}
	return -1
}

// book is a host by the chapter's words: its variables stand in a list as they were set.
type book struct {
	console string
	vars    []api.Var
	seed    uint64
	clock   uint32
}

func bookOf(s api.HostState) *book {
	return &book{string(s.Console), slices.Clone(s.Vars), s.Seed, s.Clock}
}

func (b *book) state() api.HostState {
	list := slices.Clone(b.vars)
	slices.SortFunc(list, func(x, y api.Var) int { return bytes.Compare([]byte(x.Name), []byte(y.Name)) })
	return api.HostState{Console: []byte(b.console), Vars: list, Seed: b.seed, Clock: b.clock}
}

// put is what the table says of 16 to 20, with what goes on the console worked out.
func (b *book) put(s string) api.Reply {
	if len(b.console+s) > 4096 {
		return api.Reply{Value: none}
	}
	b.console += s
	return api.Reply{Value: uint32(len(s))}
}

func (b *book) find(name string) int {
	return slices.IndexFunc(b.vars, func(v api.Var) bool { return v.Name == name })
}

// set is what the table says of 27.
func (b *book) set(name string, value uint32) api.Reply {
	i := b.find(name)
	switch {
	case name == "" || len(name) > 32 || strings.Contains(name, "\x00") || i < 0 && len(b.vars) == 32:
		return api.Reply{}
	case i < 0:
		b.vars = append(b.vars, api.Var{Name: name, Value: value})
	default:
		b.vars[i].Value = value
	}
	return api.Reply{Value: 1}
}

// answer is what the table says of a call.
func (b *book) answer(data []byte, number uint32, args []uint32) api.Reply {
	w := [3]uint32{}
	copy(w[:], args)
	s := textBy(data, w[0])
	switch number {
	case 16:
		return b.put(guestBy(s))
	case 17:
		return b.put(runeBy(w[0]))
	case 18:
		return b.put(fmt.Sprint(int32(w[0])))
	case 19:
		return b.put(fmt.Sprintf("0x%08x", w[0]))
	case 20:
		return b.put(figure.Print32(w[0]))
	case 21:
		count := len(b.console)
		b.console = ""
		return api.Reply{Value: uint32(count)}
	case 22:
		return api.Reply{Value: uint32(len(s))}
	case 23:
		return api.Reply{Value: uint32(utf8.RuneCountInString(s))}
	case 24:
		x, _, err := figure.Word(s)
		return wordBy(w[1], x, err == api.OK)
	case 25:
		x, _, err := figure.Read32(s)
		return wordBy(w[1], x, err == api.OK)
	case 26:
		if i := b.find(s); i >= 0 {
			return wordBy(w[1], b.vars[i].Value, true)
		}
		return api.Reply{}
	case 27:
		return b.set(s, w[1])
	}
	return b.number(data, number, w)
}

// number is what the table says of a call from 28 on.
func (b *book) number(data []byte, number uint32, w [3]uint32) api.Reply {
	switch number {
	case 28:
		b.seed = uint64(w[0])
		if w[0] == 0 {
			b.seed = 1
		}
		return api.Reply{}
	case 29:
		b.seed = nextBy(b.seed)
		value := b.seed / (1 << 32)
		if w[0] != 0 {
			value %= uint64(w[0])
		}
		return api.Reply{Value: uint32(value)}
	case 30:
		return api.Reply{Value: b.clock}
	case 31:
		return api.Reply{Value: single.Root(w[0])}
	case 32:
		return api.Reply{Value: floorBy(w[0])}
	case 33:
		return api.Reply{Value: absBy(w[0])}
	case 38:
		re, im := partsBy(data, w[0])
		return api.Reply{Value: partBy(math.Sqrt(float64(re*re) + float64(im*im)))}
	case 39:
		if !slices.Contains([]uint32{1, 2, 4, 8}, w[2]) {
			return api.Reply{}
		}
		return pointsBy(w[0], waveBy(data, w[1], int(w[2])))
	}
	return planeBy(data, number, w)
}

// planeBy is what the table says of 34 to 37.
func planeBy(data []byte, number uint32, w [3]uint32) api.Reply {
	ar, ai := partsBy(data, w[1])
	br, bi := partsBy(data, w[2])
	switch number {
	case 34:
		return pointsBy(w[0], []float64{ar + br, ai + bi})
	case 35:
		return pointsBy(w[0], mulBy(ar, ai, br, bi))
	case 36:
		d := float64(br*br) + float64(bi*bi)
		if d == 0 {
			return api.Reply{}
		}
		return pointsBy(w[0], []float64{(float64(ar*br) + float64(ai*bi)) / d, (float64(br*ai) - float64(bi*ar)) / d})
	case 37:
		// A number with sign and its word leave the same rest by 4.
		turned := [4][]float64{{ar, ai}, {-ai, ar}, {-ar, -ai}, {ai, -ar}}
		return pointsBy(w[0], turned[w[2]%4])
	}
	panic(number)
}

func mulBy(ar, ai, br, bi float64) []float64 {
	return []float64{float64(ar*br) - float64(ai*bi), float64(ar*bi) + float64(ai*br)}
}

// waveBy is P5.8 of the points from an address on.
func waveBy(data []byte, at uint32, n int) []float64 {
	h := math.Float64frombits(0x3FE6A09E667F3BCD)
	roots := [8][2]float64{{1, 0}, {h, -h}, {0, -1}, {-h, -h}, {-1, 0}, {-h, h}, {0, 1}, {h, h}}
	var list []float64
	for j := range n {
		re, im := 0.0, 0.0
		for k := range n {
			pr, pi := partsBy(data, at+8*uint32(k))
			root := roots[j*k*(8/n)%8]
			p := mulBy(pr, pi, root[0], root[1])
			re, im = re+p[0], im+p[1]
		}
		list = append(list, re, im)
	}
	return list
}

// textBy is the text at an address, byte by byte.
func textBy(data []byte, at uint32) string {
	var b []byte
	for i := range 256 {
		x := data[place(data, at, i)]
		if x == 0 {
			break
		}
		b = append(b, x)
	}
	return string(b)
}

// guestBy is P1.8 of a text without noughts.
func guestBy(s string) string {
	var told strings.Builder
	for len(s) > 0 {
		r, size := utf8.DecodeRuneInString(s)
		if size == 1 && r == utf8.RuneError {
			told.WriteString("?")
		} else {
			told.WriteString(runeBy(uint32(r)))
		}
		s = s[size:]
	}
	return told.String()
}

// runeBy is what put puts on the console.
func runeBy(a uint32) string {
	switch {
	case a == 10 || a >= 32 && a <= 0x7E || a >= 0xA0 && a <= 0xD7FF || a >= 0xE000 && a <= 0x10FFFF:
		return string([]rune{rune(a)})
	}
	return "?"
}

// bytesBy gives the bytes of words, the lowest of each first.
func bytesBy(words ...uint32) []byte {
	var b []byte
	for _, x := range words {
		b = append(b, byte(x%256), byte(x/256%256), byte(x/65536%256), byte(x/16777216))
	}
	return b
}

// wordBy is the reply of 24 to 26.
func wordBy(at, x uint32, is bool) api.Reply {
	if !is {
		return api.Reply{}
	}
	return api.Reply{Value: 1, Writes: []api.Write{{At: at, Bytes: bytesBy(x)}}}
}

// pointsBy is the reply that lays points, handed over as their parts.
func pointsBy(at uint32, parts []float64) api.Reply {
	var b []byte
	for _, x := range parts {
		b = append(b, bytesBy(partBy(x))...)
	}
	return api.Reply{Value: 1, Writes: []api.Write{{At: at, Bytes: b}}}
}

// partBy is the word of the binary32 that is nearest to a part.
func partBy(x float64) uint32 {
	if math.IsNaN(x) {
		return 0x7FC00000
	}
	return math.Float32bits(float32(x))
}

// partsBy gives the parts of the point at an address.
func partsBy(data []byte, at uint32) (float64, float64) {
	var w [2]uint32
	for i := range 8 {
		w[i/4] += uint32(data[place(data, at, i)]) << (8 * (i % 4))
	}
	return float64(math.Float32frombits(w[0])), float64(math.Float32frombits(w[1]))
}

// nextBy lets a seed go on, by whole numbers without bounds.
func nextBy(seed uint64) uint64 {
	x := new(big.Int).SetUint64(seed)
	modulus := new(big.Int).Lsh(big.NewInt(1), 64)
	up := func(by uint) { x.Xor(x, new(big.Int).Mod(new(big.Int).Lsh(x, by), modulus)) }
	up(13)
	x.Xor(x, new(big.Int).Rsh(x, 7))
	up(17)
	return x.Uint64()
}

// floorBy is what the table says of 32, by exact fractions.
func floorBy(a uint32) uint32 {
	x := float64(math.Float32frombits(a))
	switch {
	case math.IsNaN(x):
		return 0x7FC00000
	case math.IsInf(x, 0) || x == 0:
		return a
	}
	exact := new(big.Rat).SetFloat64(x)
	// A denominator is above 0, so Div leaves a rest of 0 or more.
	whole := new(big.Int).Div(exact.Num(), exact.Denom())
	back, _ := new(big.Float).SetInt(whole).Float32()
	return math.Float32bits(back)
}

// absBy is what the table says of 33.
func absBy(a uint32) uint32 {
	if a%(1<<31) > 0x7F800000 {
		return 0x7FC00000
	}
	return a % (1 << 31)
}

// readBy tells which bytes of the data a call reads.
func readBy(data []byte, number uint32, args []uint32) map[int]bool {
	read := map[int]bool{}
	stretch := func(at uint32, count int) {
		for i := range count {
			read[place(data, at, i)] = true
		}
	}
	switch number {
	case 16, 22, 23, 24, 25, 26, 27:
		// The nought that ends the text is read too.
		stretch(args[0], min(256, len(textBy(data, args[0]))+1))
	case 34, 35, 36:
		stretch(args[1], 8)
		stretch(args[2], 8)
	case 37:
		stretch(args[1], 8)
	case 38:
		stretch(args[0], 8)
	case 39:
		if slices.Contains([]uint32{1, 2, 4, 8}, args[2]) {
			stretch(args[1], 8*int(args[2]))
		}
	}
	return read
}

// check asks a host and the book, and holds against each other what they answer and hold; and holds the reply against P17.7.
func check(t testing.TB, h *host.Host, b *book, data []byte, number uint32, args ...uint32) api.Reply {
	t.Helper()
	before := h.State()
	got := ask(t, h, data, number, args...)
	want := b.answer(data, number, args)
	what := fmt.Sprintf("%d bytes of data: %s %x", len(data), host.Word(number), args)
	if !sameReply(got, want) {
		t.Fatalf("%s: %v, want %v", what, got, want)
	}
	checkHolds(t, h, b)
	if !gate.Fits(got) || len(got.Writes) > 1 {
		t.Fatalf("%s: a reply that does not fit: %v", what, got)
	}
	for _, w := range got.Writes {
		if len(w.Bytes) > 64 || !slices.Contains(args, w.At) {
			t.Fatalf("%s: a write that may not be: %v", what, w)
		}
	}
	stays := number >= 22 && number <= 26 || number >= 30 || number <= 20 && got.Value == none
	if stays && !sameState(h.State(), before) {
		t.Fatalf("%s: the host became another one", what)
	}
	return got
}

// checkHolds holds what a host tells of itself against the book.
func checkHolds(t testing.TB, h *host.Host, b *book) {
	t.Helper()
	if got := h.State(); !sameState(got, b.state()) {
		t.Fatalf("the host holds %v, want %v", got, b.state())
	}
	if got := h.Console(); got != b.console {
		t.Fatalf("the console: %q, want %q", got, b.console)
	}
	for _, v := range b.vars {
		if got, err := h.Get(v.Name); got != v.Value || err != api.OK {
			t.Fatalf("Get(%q): %d, %d, want %d", v.Name, got, err, v.Value)
		}
	}
}

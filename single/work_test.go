package single_test

import (
	"math"
	"math/big"
	"testing"

	"playpen/api"
	"playpen/single"
)

// work is an operation of two words: the program's, the document's words for it, and the exact one.
type work struct {
	name  string
	ours  func(a, b uint32) uint32
	by    func(a, b uint32) uint32
	exact func(a, b *big.Rat) *big.Rat
	wide  func(x, y float64) float64
}

func works() []work {
	return []work{
		{"Sum", single.Sum, sumBy, addExactly, func(x, y float64) float64 { return x + y }},
		{"Rest", single.Rest, func(a, b uint32) uint32 { return sumBy(a, b^minus) }, subtractExactly, func(x, y float64) float64 { return x - y }},
		{"Product", single.Product, productBy, multiplyExactly, func(x, y float64) float64 { return x * y }},
		{"Ratio", single.Ratio, ratioBy, divideExactly, func(x, y float64) float64 { return x / y }},
	}
}

func addExactly(a, b *big.Rat) *big.Rat      { return new(big.Rat).Add(a, b) }
func subtractExactly(a, b *big.Rat) *big.Rat { return new(big.Rat).Sub(a, b) }
func multiplyExactly(a, b *big.Rat) *big.Rat { return new(big.Rat).Mul(a, b) }
func divideExactly(a, b *big.Rat) *big.Rat   { return new(big.Rat).Quo(a, b) }

// sumBy is P3.7 word for word.
func sumBy(a, b uint32) uint32 {
	switch {
	case isNone(a) || isNone(b) || isEndless(a) && isEndless(b) && signOf(a) != signOf(b):
		return api.NaN
	case isEndless(a):
		return a
	case isEndless(b):
		return b
	}
	v := addExactly(valueOf(a), valueOf(b))
	switch {
	case v.Sign() != 0:
		return rounded(v)
	case a == minus && b == minus:
		return minus
	}
	return 0
}

// productBy is P3.8 word for word.
func productBy(a, b uint32) uint32 {
	sign := signOf(a) != signOf(b)
	switch {
	case isNone(a) || isNone(b) || isEndless(a) && isNought(b) || isNought(a) && isEndless(b):
		return api.NaN
	case isEndless(a) || isEndless(b):
		return withSign(endless, sign)
	case isNought(a) || isNought(b):
		return withSign(0, sign)
	}
	return rounded(multiplyExactly(valueOf(a), valueOf(b)))
}

// ratioBy is P3.9 word for word.
func ratioBy(a, b uint32) uint32 {
	sign := signOf(a) != signOf(b)
	switch {
	case isNone(a) || isNone(b) || isEndless(a) && isEndless(b) || isNought(a) && isNought(b):
		return api.NaN
	case isEndless(a) || isNought(b):
		return withSign(endless, sign)
	case isNought(a) || isEndless(b):
		return withSign(0, sign)
	}
	return rounded(divideExactly(valueOf(a), valueOf(b)))
}

// rootBy is P3.10 word for word.
func rootBy(a uint32) uint32 {
	switch {
	case isNone(a) || signOf(a) && !isNought(a):
		return api.NaN
	case isNought(a) || isEndless(a):
		return a
	}
	return rootRounded(valueOf(a))
}

// P3.7 to P3.9: the document's examples and the cases that the promises name.
func TestWorkRows(t *testing.T) {
	cases := []struct {
		name       string
		f          func(a, b uint32) uint32
		a, b, want uint32
	}{
		{"Sum", single.Sum, 0x3DCCCCCD, 0x3E4CCCCD, 0x3E99999A},
		{"Sum", single.Sum, one, minus + one, 0},
		{"Sum", single.Sum, minus, minus, minus},
		{"Sum", single.Sum, minus, 0, 0},
		{"Sum", single.Sum, 0, minus, 0},
		{"Sum", single.Sum, endless, minus + endless, api.NaN},
		{"Sum", single.Sum, minus + endless, endless, api.NaN},
		{"Sum", single.Sum, endless, endless, endless},
		{"Sum", single.Sum, one, minus + endless, minus + endless},
		{"Sum", single.Sum, most, 0x73000000, endless},
		{"Sum", single.Sum, most, 0x72FFFFFF, most},
		{"Sum", single.Sum, 0x4B800000, one, 0x4B800000},
		{"Sum", single.Sum, 0xFFFFFFFF, 0, api.NaN},
		{"Sum", single.Sum, 0, 0x7F800001, api.NaN},
		{"Rest", single.Rest, one, one, 0},
		{"Rest", single.Rest, minus, 0, minus},
		{"Rest", single.Rest, 0, minus, 0},
		{"Rest", single.Rest, endless, endless, api.NaN},
		{"Rest", single.Rest, one, 0xFFC00001, api.NaN},
		{"Rest", single.Rest, three, two, one},
		{"Product", single.Product, 3, 0x3F000000, 2},
		{"Product", single.Product, 1, 0x3F000000, 0},
		{"Product", single.Product, minus + 1, 0x3F000000, minus},
		{"Product", single.Product, endless, minus, api.NaN},
		{"Product", single.Product, 0, endless, api.NaN},
		{"Product", single.Product, minus + one, 0, minus},
		{"Product", single.Product, minus, minus, 0},
		{"Product", single.Product, minus + endless, minus + one, endless},
		{"Product", single.Product, 0x7F000000, two, endless},
		{"Product", single.Product, 0x7FFFFFFF, one, api.NaN},
		{"Ratio", single.Ratio, one, three, 0x3EAAAAAB},
		{"Ratio", single.Ratio, one, minus, minus + endless},
		{"Ratio", single.Ratio, 0, 0, api.NaN},
		{"Ratio", single.Ratio, minus, 0, api.NaN},
		{"Ratio", single.Ratio, endless, endless, api.NaN},
		{"Ratio", single.Ratio, endless, minus, minus + endless},
		{"Ratio", single.Ratio, minus + one, endless, minus},
		{"Ratio", single.Ratio, 0, minus + endless, minus},
		{"Ratio", single.Ratio, 1, two, 0},
		{"Ratio", single.Ratio, 3, two, 2},
		{"Ratio", single.Ratio, most, 1, endless},
		{"Ratio", single.Ratio, one, 0xFFFFFFFF, api.NaN},
	}
	for _, c := range cases {
		if got := c.f(c.a, c.b); got != c.want {
			t.Errorf("%s(%08X, %08X): %08X, want %08X", c.name, c.a, c.b, got, c.want)
		}
	}
}

// P3.7 to P3.9, P3.16, P3.19: each of many words with each.
func TestWork(t *testing.T) {
	words := someWords()
	for _, w := range works() {
		for _, a := range words {
			for _, b := range words {
				checkWork(t, w, a, b)
			}
		}
	}
}

// P3.7 to P3.9, P3.16, P3.19: words from all over, and such as lie near one another.
func TestWorkScattered(t *testing.T) {
	words := append(scattered(6000), everyEdge()...)
	for i, a := range words {
		b := words[(i*7+1)%len(words)]
		w := works()[i%4]
		checkWork(t, w, a, b)
		checkWork(t, w, a, b%0x1800000+a/0x1800000*0x1800000)
	}
}

func checkWork(t *testing.T, w work, a, b uint32) {
	t.Helper()
	got := w.ours(a, b)
	if want := w.by(a, b); got != want {
		t.Fatalf("%s(%08X, %08X): %08X, want %08X", w.name, a, b, got, want)
	}
	if isNone(a) || isNone(b) {
		return
	}
	x, y := math.Float64frombits(single.Wide(a)), math.Float64frombits(single.Wide(b))
	if through := single.Narrow(math.Float64bits(w.wide(x, y))); through != got {
		t.Fatalf("%s(%08X, %08X): %08X, through binary64 %08X", w.name, a, b, got, through)
	}
	if isFinite(a) && isFinite(b) && isFinite(got) && !isNought(got) {
		checkNearest(t, w.name, got, w.exact(valueOf(a), valueOf(b)).Cmp)
	}
}

// checkNearest looks whether an exact value lies between the half ways to a word's neighbours (P3.16); against tells how the value stands to another.
func checkNearest(t *testing.T, name string, got uint32, against func(*big.Rat) int) {
	t.Helper()
	below := against(halfWay(single.Below(got), got))
	above := against(halfWay(got, single.Above(got)))
	even := single.Split(got).Mant%2 == 0
	if below < 0 || above > 0 || (below == 0 || above == 0) && !even {
		t.Fatalf("%s: %08X is not the nearest", name, got)
	}
}

// P3.10: the cases that the promise names.
func TestRootRows(t *testing.T) {
	cases := []struct{ a, want uint32 }{
		{two, 0x3FB504F3}, {0x40800000, two}, {one, one}, {0, 0}, {minus, minus}, {endless, endless}, {minus + endless, api.NaN},
		{minus + one, api.NaN}, {minus + 1, api.NaN}, {0x7F800001, api.NaN}, {0xFFFFFFFF, api.NaN}, {1, 0x1A3504F3}, {most, 0x5F7FFFFF},
	}
	for _, c := range cases {
		if got := single.Root(c.a); got != c.want {
			t.Errorf("Root(%08X): %08X, want %08X", c.a, got, c.want)
		}
	}
}

// P3.10, P3.16, P3.19: roots of many words.
func TestRoot(t *testing.T) {
	for _, a := range append(everyEdge(), scattered(4000)...) {
		got := single.Root(a)
		if want := rootBy(a); got != want {
			t.Fatalf("Root(%08X): %08X, want %08X", a, got, want)
		}
		if through := single.Narrow(math.Float64bits(math.Sqrt(math.Float64frombits(single.Wide(a))))); through != got {
			t.Fatalf("Root(%08X): %08X, through binary64 %08X", a, got, through)
		}
		if isFinite(got) && !isNought(got) {
			checkNearest(t, "Root", got, func(half *big.Rat) int { return valueOf(a).Cmp(new(big.Rat).Mul(half, half)) })
		}
	}
}

// P3.17: sums, and products with what is not below 0, keep the order.
func TestOrderKept(t *testing.T) {
	words := rising(someWords())
	for _, c := range words {
		checkRising(t, words, func(a uint32) uint32 { return single.Sum(a, c) })
		if order(c, 0) >= 0 {
			checkRising(t, words, func(a uint32) uint32 { return single.Product(a, c) })
		}
	}
	checkRising(t, words, single.Root)
	checkRising(t, rising(manyWords()), single.Root)
}

// checkRising looks whether what comes of rising words rises, apart from NaNs.
func checkRising(t *testing.T, words []uint32, f func(uint32) uint32) {
	t.Helper()
	last := uint32(minus + endless)
	for _, a := range words {
		got := f(a)
		if isNone(got) {
			continue
		}
		if single.Stand(last, got) == api.SideAbove {
			t.Fatalf("of %08X comes %08X, of one that is not above it %08X", a, got, last)
		}
		last = got
	}
}

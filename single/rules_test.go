package single_test

import (
	"testing"

	"playpen/api"
	"playpen/single"
)

// P3.4: every word that is no number counts as the one NaN, and no other comes out.
func TestNoNumberCountsAsOne(t *testing.T) {
	others := []uint32{0x7F800001, 0x7FBFFFFF, 0x7FC00001, 0x7FFFFFFF, 0xFF800001, 0xFFC00000, 0xFFC00001, 0xFFFFFFFF}
	for _, none := range others {
		if single.Stand(none, one) != api.SideNone || single.Stand(one, none) != api.SideNone || single.Stand(none, none) != api.SideNone {
			t.Errorf("Stand of %08X", none)
		}
		if single.Toward(none) != single.Toward(api.NaN) || single.Wide(none) != single.Wide(api.NaN) {
			t.Errorf("Toward, Wide of %08X: %d, %016X", none, single.Toward(none), single.Wide(none))
		}
		for name, f := range map[string]func(uint32) uint32{"Above": single.Above, "Below": single.Below, "Root": single.Root} {
			if got := f(none); got != api.NaN {
				t.Errorf("%s(%08X): %08X", name, none, got)
			}
		}
		for _, w := range works() {
			for _, a := range someWords() {
				if left, right := w.ours(none, a), w.ours(a, none); left != api.NaN || right != api.NaN {
					t.Errorf("%s of %08X and %08X: %08X, %08X", w.name, none, a, left, right)
				}
			}
		}
	}
}

// P3.4: what is answered is a number or the one NaN.
func TestAnswersAreNumbersOrTheNaN(t *testing.T) {
	for i, a := range manyWords() {
		b := a*2654435761 + uint32(i)
		answers := []uint32{single.Above(a), single.Below(a), single.Root(a), single.Of(int32(a)), single.Narrow(uint64(a)<<32 + uint64(b)), single.Round(i%2 == 0, uint64(a)<<32+uint64(b), int(b%512)-300, i%3 == 0)}
		for _, w := range works() {
			answers = append(answers, w.ours(a, b))
		}
		for k, got := range answers {
			if oneNaN(got) != got {
				t.Fatalf("call %d of %08X, %08X: %08X", k, a, b, got)
			}
		}
	}
}

// R5: a product that goes into a sum has been rounded ahead of it.
func TestProductRoundedAheadOfSum(t *testing.T) {
	for _, a := range scattered(4000) {
		a, b, c := a%0x400000+one, a/512%0x400000+one, uint32(minus+one)
		if got, want := single.Sum(single.Product(a, b), c), sumBy(productBy(a, b), c); got != want {
			t.Fatalf("%08X times %08X less 1: %08X, want %08X", a, b, got, want)
		}
	}
}

// R1: no call panics, at whatever it is given, and each does what its promise says.
func FuzzEveryCall(f *testing.F) {
	f.Add(uint32(one), uint32(three), uint64(0x3FB999999999999A), -23, true, false)
	f.Add(uint32(1), uint32(0x3F000000), uint64(16777217), 0, false, true)
	f.Add(uint32(0xFFFFFFFF), uint32(endless), uint64(1<<64-1), 1<<62, true, true)
	f.Fuzz(func(t *testing.T, a, b uint32, wide uint64, power int, sign, more bool) {
		for _, w := range works() {
			checkWork(t, w, a, b)
		}
		if got, want := single.Root(a), rootBy(a); got != want {
			t.Fatalf("Root(%08X): %08X, want %08X", a, got, want)
		}
		if got, want := single.Narrow(wide), narrowBy(wide); got != want {
			t.Fatalf("Narrow(%016X): %08X, want %08X", wide, got, want)
		}
		single.Round(sign, wide, power, more)
		checkRound(t, sign, wide, power%400, more)
		checkJoin(t, api.Parts{Sort: api.Sort(wide), Minus: sign, Mant: a, Power: power})
		checkJoin(t, finite(sign, a%(1<<24), power%256))
		if single.Split(a) != splitBy(a) || single.Stand(a, b) != standBy(a, b) || single.Toward(a) != towardBy(a) {
			t.Fatalf("%08X, %08X: %v, %d, %d", a, b, single.Split(a), single.Stand(a, b), single.Toward(a))
		}
		if single.Narrow(single.Wide(a)) != oneNaN(a) || place(oneNaN(single.Below(single.Above(a)))) != place(oneNaN(a)) && a != endless {
			t.Fatalf("%08X does not come back", a)
		}
	})
}

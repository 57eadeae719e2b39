package alu_test

import (
	"sync"
	"testing"

	"playpen/alu"
	"playpen/api"
)

// R4: what is answered does not hang on earlier calls, on refused ones either.
func TestAnswersStayTheSame(t *testing.T) {
	for op := range binaryTable() {
		want := answered(alu.Binary(op, 100, 7))
		alu.Binary(api.OpDivi, 1, 0)
		alu.Binary(0, 1, 0)
		checkWord(t, "Binary", op, 100, 7, answered(alu.Binary(op, 100, 7)), want)
	}
}

// R4: calls that go on side by side do not see one another, those that divide by nought either.
func TestSideBySide(t *testing.T) {
	var all sync.WaitGroup
	for n := range uint32(8) {
		all.Go(func() {
			for i := range uint32(2000) {
				b := i % (n + 2)
				if got, want := answered(alu.Binary(api.OpDivu, i, b)), binaryBy(api.OpDivu, i, b); got != want {
					t.Errorf("Binary(OpDivu, %d, %d): %d, %d", i, b, got.word, got.err)
					return
				}
			}
		})
	}
	all.Wait()
}

// R5: a product that goes into a sum has been rounded ahead of it.
func TestProductRoundedAheadOfSum(t *testing.T) {
	// 1 + 2^-12 squared is 1 + 2^-11 + 2^-24, which is rounded to 1 + 2^-11: fused, the sum would keep the 2^-24.
	product := binary(t, api.OpMulf, 0x3F800800, 0x3F800800)
	if got := binary(t, api.OpSubf, product, 0x3F801000); got != 0 {
		t.Fatalf("the rest is %08X", got)
	}
}

// R1: no call panics, at whatever it is given, and each does what its promise says.
func FuzzEveryCall(f *testing.F) {
	f.Add(byte(api.OpDivi), uint32(0x80000000), uint32(0xFFFFFFFF))
	f.Add(byte(api.OpModu), uint32(5), uint32(0))
	f.Add(byte(api.OpShri), uint32(0xFFFFFFF9), uint32(33))
	f.Add(byte(api.OpNef), uint32(api.NaN), uint32(0x80000000))
	f.Add(byte(0), uint32(1), uint32(2))
	f.Fuzz(func(t *testing.T, number byte, a, b uint32) {
		op := api.Op(number)
		checkWord(t, "Unary", op, a, 0, answered(alu.Unary(op, a)), unaryBy(op, a))
		checkWord(t, "Binary", op, a, b, answered(alu.Binary(op, a, b)), binaryBy(op, a, b))
		checkVerdict(t, op, a, b, judged(alu.Holds(op, a, b)), holdsBy(op, a, b))
		if swapped, err := alu.Swapped(op); err == api.OK {
			checkHoldsTurned(t, op, swapped, a, b)
		}
		if opposite, err := alu.Opposite(op); err == api.OK {
			holds, _ := alu.Holds(op, a, b)
			checkVerdict(t, opposite, a, b, judged(alu.Holds(opposite, a, b)), verdict{!holds, api.OK})
		}
	})
}

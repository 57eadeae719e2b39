package alu_test

import (
	"math/big"
	"testing"

	"playpen/api"
	"playpen/single"
)

// lastByte is the greatest number that an operation's type holds.
const lastByte = 255

// answer is what a call says that gives a word.
type answer struct {
	word uint32
	err  api.Errno
}

func answered(word uint32, err api.Errno) answer { return answer{word, err} }

// verdict is what a comparison says.
type verdict struct {
	holds bool
	err   api.Errno
}

func judged(holds bool, err api.Errno) verdict { return verdict{holds, err} }

// turn is what Swapped and Opposite say.
type turn struct {
	op  api.Op
	err api.Errno
}

func turnedTo(op api.Op, err api.Errno) turn { return turn{op, err} }

// whole reads a word without sign.
func whole(a uint32) *big.Int { return new(big.Int).SetUint64(uint64(a)) }

// signed reads a word with a sign: x, or x - 2^32 from 2^31 on.
func signed(a uint32) *big.Int {
	n := whole(a)
	if a >= 1<<31 {
		n.Sub(n, power(32))
	}
	return n
}

func power(s uint) *big.Int { return new(big.Int).Lsh(big.NewInt(1), s) }

// wrapped gives the word that is the same modulo 2^32.
func wrapped(n *big.Int) uint32 { return uint32(new(big.Int).Mod(n, power(32)).Uint64()) }

// lowest reads so many of the lowest bits with a sign.
func lowest(a uint32, bits uint) *big.Int {
	n := new(big.Int).Mod(whole(a), power(bits))
	if n.Cmp(power(bits-1)) >= 0 {
		n.Sub(n, power(bits))
	}
	return n
}

// unaryTable is the document's first table.
func unaryTable() map[api.Op]func(a uint32) uint32 {
	return map[api.Op]func(a uint32) uint32{
		api.OpSex8:  func(a uint32) uint32 { return wrapped(lowest(a, 8)) },
		api.OpSex16: func(a uint32) uint32 { return wrapped(lowest(a, 16)) },
		api.OpNeg:   func(a uint32) uint32 { return wrapped(new(big.Int).Neg(whole(a))) },
		api.OpNot:   func(a uint32) uint32 { return bitByBit(a, 0, func(x, _ int) int { return 1 - x }) },
		api.OpNegf:  single.Turned,
		api.OpCvif:  func(a uint32) uint32 { return single.Of(int32(signed(a).Int64())) },
		api.OpCvfi:  func(a uint32) uint32 { return wrapped(big.NewInt(int64(single.Toward(a)))) },
	}
}

// binaryTable is the document's second table, but for what it says of a division by nought.
func binaryTable() map[api.Op]func(a, b uint32) uint32 {
	return map[api.Op]func(a, b uint32) uint32{
		api.OpAdd:  func(a, b uint32) uint32 { return wrapped(new(big.Int).Add(whole(a), whole(b))) },
		api.OpSub:  func(a, b uint32) uint32 { return wrapped(new(big.Int).Sub(whole(a), whole(b))) },
		api.OpMul:  func(a, b uint32) uint32 { return wrapped(new(big.Int).Mul(whole(a), whole(b))) },
		api.OpDivi: func(a, b uint32) uint32 { return wrapped(quotient(signed(a), signed(b))) },
		api.OpModi: func(a, b uint32) uint32 { return wrapped(rest(signed(a), signed(b))) },
		api.OpDivu: func(a, b uint32) uint32 { return wrapped(quotient(whole(a), whole(b))) },
		api.OpModu: func(a, b uint32) uint32 { return wrapped(rest(whole(a), whole(b))) },
		api.OpAnd:  func(a, b uint32) uint32 { return bitByBit(a, b, func(x, y int) int { return x * y }) },
		api.OpOr:   func(a, b uint32) uint32 { return bitByBit(a, b, func(x, y int) int { return max(x, y) }) },
		api.OpXor:  func(a, b uint32) uint32 { return bitByBit(a, b, func(x, y int) int { return (x + y) % 2 }) },
		api.OpShl:  func(a, b uint32) uint32 { return wrapped(new(big.Int).Mul(whole(a), power(count(b)))) },
		api.OpShru: func(a, b uint32) uint32 { return wrapped(floor(whole(a), power(count(b)))) },
		api.OpShri: func(a, b uint32) uint32 { return wrapped(floor(signed(a), power(count(b)))) },
		api.OpAddf: single.Sum,
		api.OpSubf: single.Rest,
		api.OpMulf: single.Product,
		api.OpDivf: single.Ratio,
	}
}

// holdsTable is the document's third table.
func holdsTable() map[api.Op]func(a, b uint32) bool {
	withSign := func(a, b uint32) int { return signed(a).Cmp(signed(b)) }
	without := func(a, b uint32) int { return whole(a).Cmp(whole(b)) }
	return map[api.Op]func(a, b uint32) bool{
		api.OpEq:  func(a, b uint32) bool { return without(a, b) == 0 },
		api.OpNe:  func(a, b uint32) bool { return without(a, b) != 0 },
		api.OpLti: func(a, b uint32) bool { return withSign(a, b) == -1 },
		api.OpLei: func(a, b uint32) bool { return withSign(a, b) != 1 },
		api.OpGti: func(a, b uint32) bool { return withSign(a, b) == 1 },
		api.OpGei: func(a, b uint32) bool { return withSign(a, b) != -1 },
		api.OpLtu: func(a, b uint32) bool { return without(a, b) == -1 },
		api.OpLeu: func(a, b uint32) bool { return without(a, b) != 1 },
		api.OpGtu: func(a, b uint32) bool { return without(a, b) == 1 },
		api.OpGeu: func(a, b uint32) bool { return without(a, b) != -1 },
		api.OpEqf: func(a, b uint32) bool { return single.Stand(a, b) == api.SideEven },
		api.OpNef: func(a, b uint32) bool { return single.Stand(a, b) != api.SideEven },
		api.OpLtf: func(a, b uint32) bool { return single.Stand(a, b) == api.SideBelow },
		api.OpLef: func(a, b uint32) bool {
			return single.Stand(a, b) == api.SideBelow || single.Stand(a, b) == api.SideEven
		},
		api.OpGtf: func(a, b uint32) bool { return single.Stand(a, b) == api.SideAbove },
		api.OpGef: func(a, b uint32) bool {
			return single.Stand(a, b) == api.SideAbove || single.Stand(a, b) == api.SideEven
		},
	}
}

// divides tells of which operations the second table names an error.
func divides(op api.Op) bool {
	return op == api.OpDivi || op == api.OpModi || op == api.OpDivu || op == api.OpModu
}

// count is s, b modulo 32.
func count(b uint32) uint { return uint(new(big.Int).Mod(whole(b), big.NewInt(32)).Uint64()) }

// floor gives the greatest whole number that is not above a over b, b above 0.
func floor(a, b *big.Int) *big.Int {
	n, m := new(big.Int).DivMod(a, b, new(big.Int))
	if m.Sign() < 0 {
		n.Sub(n, big.NewInt(1))
	}
	return n
}

// quotient gives a over b toward nought: the sizes' quotient, with its sign.
func quotient(a, b *big.Int) *big.Int {
	n := floor(new(big.Int).Abs(a), new(big.Int).Abs(b))
	if a.Sign()*b.Sign() < 0 {
		n.Neg(n)
	}
	return n
}

// rest gives a - quotient * b.
func rest(a, b *big.Int) *big.Int {
	n := new(big.Int).Mul(quotient(a, b), b)
	return n.Sub(a, n)
}

// bitByBit makes each bit of an answer from the two bits at its place.
func bitByBit(a, b uint32, bit func(x, y int) int) uint32 {
	n := new(big.Int)
	for i := range 32 {
		n.SetBit(n, i, uint(bit(int(whole(a).Bit(i)), int(whole(b).Bit(i)))))
	}
	return wrapped(n)
}

// unaryBy is P6.1 word for word.
func unaryBy(op api.Op, a uint32) answer {
	f, ok := unaryTable()[op]
	if !ok {
		return answer{0, api.ErrNotOp}
	}
	return answer{f(a), api.OK}
}

// binaryBy is P6.2 word for word.
func binaryBy(op api.Op, a, b uint32) answer {
	f, ok := binaryTable()[op]
	switch {
	case !ok:
		return answer{0, api.ErrNotOp}
	case divides(op) && b == 0:
		return answer{0, api.ErrDivide}
	}
	return answer{f(a, b), api.OK}
}

// holdsBy is P6.3 word for word.
func holdsBy(op api.Op, a, b uint32) verdict {
	f, ok := holdsTable()[op]
	if !ok {
		return verdict{false, api.ErrNotOp}
	}
	return verdict{f(a, b), api.OK}
}

// everyOp gives every number that an operation's type holds, those that are none too.
func everyOp() []api.Op {
	var list []api.Op
	for n := range lastByte + 1 {
		list = append(list, api.Op(n))
	}
	return list
}

// edgeWords gives words at the edges: of the widths, of the signs, of a shift's count, and as binary32 noughts, the least, the greatest, the endless and those that are no number.
func edgeWords() []uint32 {
	list := []uint32{
		0, 1, 2, 3, 7, 31, 32, 33, 63, 64, 0x7E, 0x7F, 0x80, 0x81, 0xFF, 0x100, 0x17F, 0x180, 0x1FF,
		0x7FFE, 0x7FFF, 0x8000, 0x8001, 0xFFFF, 0x10000, 0x10001, 0x17FFF, 0x18000, 0x55555555, 0x12345678,
		0x7FFFFF, 0x800000, 0x3F000000, 0x3F800000, 0x3FC00000, 0x40400000, 0x4B800000, 0x4EFFFFFF, 0x4F000000, 0x4F000001,
		0x7F7FFFFF, 0x7F800000, 0x7F800001, api.NaN, 0x7FC00001, 0x7FFFFFFF,
	}
	for _, a := range append([]uint32{}, list...) {
		list = append(list, ^a, -a, a^0x80000000)
	}
	return list
}

// scattered gives so many words, always the same ones, from all over.
func scattered(count int) []uint32 {
	list := make([]uint32, count)
	state := uint64(0x9E3779B97F4A7C15)
	for i := range list {
		state ^= state << 13
		state ^= state >> 7
		state ^= state << 17
		list[i] = uint32(state * 0x2545F4914F6CDD1D >> 32)
	}
	return list
}

// pairs gives every edge with every edge, and some from all over, every fourth of these with a small right word.
func pairs() [][2]uint32 {
	var list [][2]uint32
	for _, a := range edgeWords() {
		for _, b := range edgeWords() {
			list = append(list, [2]uint32{a, b})
		}
	}
	words := scattered(4000)
	for i := 0; i < len(words); i += 2 {
		a, b := words[i], words[i+1]
		if i%8 == 0 {
			b %= 1000
		}
		list = append(list, [2]uint32{a, b})
	}
	return list
}

func checkWord(t *testing.T, what string, op api.Op, a, b uint32, got, want answer) {
	t.Helper()
	if got != want {
		t.Fatalf("%s(%d, %08X, %08X): %08X, %d, want %08X, %d", what, op, a, b, got.word, got.err, want.word, want.err)
	}
}

func checkVerdict(t *testing.T, op api.Op, a, b uint32, got, want verdict) {
	t.Helper()
	if got != want {
		t.Fatalf("Holds(%d, %08X, %08X): %v, %d, want %v, %d", op, a, b, got.holds, got.err, want.holds, want.err)
	}
}

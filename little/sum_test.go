package little_test

import (
	"bytes"
	"hash/adler32"
	"math"
	"math/big"
	"slices"
	"testing"

	"playpen/little"
)

// P2.12: the document's examples, and sums that are published.
func TestSumExamples(t *testing.T) {
	for _, x := range []struct {
		b    []byte
		want uint32
	}{
		{nil, 1}, {[]byte{}, 1}, {[]byte{97, 98, 99}, 0x024D0127}, {[]byte{0}, 0x00010001}, {[]byte{255}, 0x01000100},
		{[]byte("Wikipedia"), 0x11E60398}, {[]byte("message digest"), 0x29750586}, {bytes.Repeat([]byte("1234567890"), 8), 0x97B61069},
	} {
		if got := little.Sum(x.b); got != x.want {
			t.Errorf("Sum(%q): %#x, want %#x", x.b, got, x.want)
		}
	}
}

// P2.12: long lists of great and small bytes, in which both halves come to 65520, 65521 and beyond.
func TestSumLong(t *testing.T) {
	for _, c := range []byte{0, 1, 15, 254, 255} {
		b := bytes.Repeat([]byte{c}, 70000)
		for count := 0; count <= len(b); count += 1 + count/9 {
			if got, want := little.Sum(b[:count]), adler32.Checksum(b[:count]); got != want {
				t.Fatalf("Sum of %d times %d: %#x, want %#x", count, c, got, want)
			}
		}
	}
	// 256 times 255 and then 240 make the low half 65521, which is nought.
	b := append(bytes.Repeat([]byte{255}, 256), 240)
	if got := little.Sum(b); got%65536 != 0 {
		t.Errorf("Sum at the edge: %#x", got)
	}
	if got := little.Sum(append(b[:256:256], 239)); got%65536 != 65520 {
		t.Errorf("Sum below the edge: %#x", got)
	}
}

// joinBy gives what Join answers, worked out with whole numbers.
func joinBy(a, b uint32, n int) uint32 {
	whole := func(x int64) *big.Int { return big.NewInt(x) }
	base := whole(65521)
	low := whole(int64(a%65536) + int64(b%65536) + 65520)
	high := new(big.Int).Mul(whole(int64(max(n, 0))), whole(int64(a%65536)+65520))
	high.Add(high, whole(int64(a/65536)+int64(b/65536)))
	low.Mod(low, base)
	high.Mod(high, base)
	return uint32(high.Int64()*65536 + low.Int64())
}

// P2.13: every pair of edges, sums or not, with counts to the greatest and least.
func TestJoin(t *testing.T) {
	numbers := append(words(), 65519, 65520, 65521, 65522, 65535, 65536, 65520<<16, 65521<<16, 65535<<16, 65520<<16|65520, 65521<<16|65521, 0x024D0127, 0xF00FF1F0)
	counts := []int{0, 1, 2, -1, -5, 65520, 65521, 65522, 131042, 1 << 31, 1<<32 - 1, 1<<62 + 7, math.MaxInt - 1, math.MaxInt, math.MinInt, math.MinInt + 1}
	for _, a := range numbers {
		for _, b := range numbers {
			for _, n := range counts {
				if got, want := little.Join(a, b, n), joinBy(a, b, n); got != want {
					t.Errorf("Join(%#x, %#x, %d): %#x, want %#x", a, b, n, got, want)
				}
			}
		}
	}
	if got := little.Join(little.Sum([]byte{97}), little.Sum([]byte{98, 99}), 2); got != 0x024D0127 {
		t.Errorf("Join of the example: %#x", got)
	}
}

// P2.16: the sum of two lists one behind the other, cut at every kind of place.
func TestJoinOfSums(t *testing.T) {
	var b []byte
	for i := range 70000 {
		b = append(b, byte(255-i%3))
	}
	for _, count := range []int{0, 1, 2, 255, 256, 257, 258, 6000, 65521, 65522, 70000} {
		list := b[:count]
		for _, cut := range []int{0, 1, 2, 256, 2500, 5552, 65520, 65521, 70000} {
			cut = min(cut, count)
			if got, want := little.Join(little.Sum(list[:cut]), little.Sum(list[cut:]), count-cut), little.Sum(list); got != want {
				t.Errorf("Join of %d bytes cut at %d: %#x, want %#x", count, cut, got, want)
			}
		}
	}
}

// P2.16: two lists that differ in just one byte have different sums.
func TestSumTellsOneByte(t *testing.T) {
	for _, count := range []int{1, 2, 9, 300, 65521, 65530} {
		b := bytes.Repeat([]byte{255, 0, 128}, count)[:count]
		sum := little.Sum(b)
		for _, at := range []int{0, count / 2, count - 1} {
			for _, c := range []byte{0, 1, 127, 128, 129, 254, 255} {
				changed := slices.Clone(b)
				changed[at] = c
				if c != b[at] && little.Sum(changed) == sum {
					t.Errorf("Sum of %d bytes does not tell %d from %d at %d", count, c, b[at], at)
				}
			}
		}
	}
}

package little_test

import (
	"bytes"
	"math"
	"slices"

	"playpen/api"
	"playpen/little"
)

// widthOf gives the width of a number type by the document's table.
func widthOf[T little.Whole]() int {
	switch any(T(0)).(type) {
	case uint8:
		return 1
	case uint16:
		return 2
	case uint32:
		return 4
	}
	return 8
}

// bytesOf gives the bytes of a number by the document's rule: the i-th is x / 256^i modulo 256.
func bytesOf[T little.Whole](x T) []byte {
	var b []byte
	rest := uint64(x)
	for range widthOf[T]() {
		b = append(b, byte(rest%256))
		rest /= 256
	}
	return b
}

// edges gives numbers of a type at which something may go wrong: single bits, all bits below one, and bytes that all differ.
func edges[T little.Whole]() []T {
	numbers := []T{0}
	for bit := range 8 * widthOf[T]() {
		one := T(1) << bit
		numbers = append(numbers, one, one-1, ^one, one+one/2)
	}
	pattern := uint64(0xF1E2D3C4B5A69788)
	return append(numbers, T(pattern), ^T(0))
}

// rising gives so many bytes, each with a number of its own for its place.
func rising(count int) []byte {
	b := make([]byte, count)
	for i := range b {
		b[i] = byte(17*i + 3)
	}
	return b
}

// places gives places in and around a list of so many bytes, and the greatest and least ones of all.
func places(count int) []int {
	list := []int{math.MinInt, math.MinInt + 1, -1 << 32, math.MaxInt - 8, math.MaxInt - 1, math.MaxInt, 1 << 32}
	for at := -9; at <= count+9; at++ {
		list = append(list, at)
	}
	return list
}

func span(at, length uint32) api.Span { return api.Span{At: at, Len: length} }

func run(at uint32, b ...byte) api.Write { return api.Write{At: at, Bytes: b} }

// words gives words at the edges of 32 bits and some small ones.
func words() []uint32 {
	return []uint32{0, 1, 2, 3, 4, 5, 1 << 31, 1<<31 - 1, 1<<32 - 3, 1<<32 - 2, 1<<32 - 1}
}

// spansOf gives every span of these numbers.
func spansOf(numbers []uint32) []api.Span {
	var list []api.Span
	for _, at := range numbers {
		for _, length := range numbers {
			list = append(list, span(at, length))
		}
	}
	return list
}

// eachList visits every list of at most so many of the things.
func eachList[T any](things []T, most int, visit func([]T)) {
	var grow func([]T)
	grow = func(list []T) {
		visit(list)
		if len(list) == most {
			return
		}
		for _, thing := range things {
			grow(append(slices.Clone(list), thing))
		}
	}
	grow(nil)
}

func sameRuns(a, b []api.Write) bool {
	return slices.EqualFunc(a, b, func(x, y api.Write) bool { return x.At == y.At && bytes.Equal(x.Bytes, y.Bytes) })
}

func cloneRuns(runs []api.Write) []api.Write {
	runs = slices.Clone(runs)
	for i := range runs {
		runs[i].Bytes = bytes.Clone(runs[i].Bytes)
	}
	return runs
}

// bytesIn gives how many bytes the runs have in all.
func bytesIn(runs []api.Write) int {
	total := 0
	for _, r := range runs {
		total += len(r.Bytes)
	}
	return total
}

// overwrite fills a list of bytes and its spare room with another byte than those that stand there.
func overwrite(b []byte) {
	b = b[:cap(b)]
	for i := range b {
		b[i] ^= 0xFF
	}
}

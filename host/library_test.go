package host_test

import (
	"fmt"
	"slices"
	"strings"
	"testing"

	"playpen/api"
	"playpen/gate"
	"playpen/host"
)

// The errors, limits and numbers are those of the chapter.
func TestNumbersOfTheChapter(t *testing.T) {
	if api.ErrLibrary != 170 || api.ErrCallArgs != 171 || api.ErrVar != 172 || api.ErrVars != 173 || api.ErrHost != 174 || api.ErrLength != 91 || api.ErrNil != 1 {
		t.Error("an error has another number")
	}
	if api.MaxConsole != 4096 || api.MaxVars != 32 || api.MaxText != 256 || api.MaxName != 32 {
		t.Error("a limit has another number")
	}
	names := []uint32{api.CallPrint, api.CallPut, api.CallInt, api.CallHex, api.CallFloat, api.CallClear, api.CallLength, api.CallRunes,
		api.CallParse, api.CallParseF, api.CallGet, api.CallSet, api.CallSeed, api.CallRandom, api.CallClock, api.CallSqrt, api.CallFloor, api.CallAbs,
		api.CallAdd, api.CallMul, api.CallDiv, api.CallTurn, api.CallFar, api.CallWave}
	for i, number := range names {
		if number != uint32(16+i) {
			t.Errorf("the call %d has the number %d", i, number)
		}
	}
}

// P17.1: each call of the table, rising, and no others.
func TestTable(t *testing.T) {
	var want []api.Grant
	for line := range strings.SplitSeq(table, "\n") {
		var number uint32
		var word string
		var count int
		fmt.Sscan(line, &number, &word, &count)
		want = append(want, api.Grant{Number: number, Args: count})
		if got := host.Word(number); got != word {
			t.Errorf("Word(%d): %q", number, got)
		}
		if got, is := host.ByWord(word); got != number || !is {
			t.Errorf("ByWord(%q): %d, %t", word, got, is)
		}
	}
	if got := host.Grants(); !slices.Equal(got, want) || len(got) != 24 {
		t.Errorf("Grants: %v", got)
	}
	if _, err := gate.New(host.Grants()); err != api.OK {
		t.Errorf("no gate takes the grants: %d", err)
	}
}

// P17.1: numbers and words that the library does not have.
func TestNotInTheTable(t *testing.T) {
	numbers := []uint32{0, 1, 3, 4, 14, 15, 40, 41, 255, 256 + 16, 1<<16 + 16, 1<<31 - 1, 1 << 31, 1<<31 + 16, ^uint32(16), none}
	for _, number := range numbers {
		if got := host.Word(number); got != "" {
			t.Errorf("Word(%d): %q", number, got)
		}
	}
	for _, word := range []string{"", " ", "Print", "PRINT", "prin", "printx", " print", "print ", "print\x00", "parseF", "parse f", "sub", "16", "\xff", strings.Repeat("print", 1000)} {
		if number, is := host.ByWord(word); number != 0 || is {
			t.Errorf("ByWord(%q): %d, %t", word, number, is)
		}
	}
}

// sizes are numbers of bytes at the edges of what data may have.
func sizes() []int {
	list := []int{0, 1, 2, 4, 64, 100, 127, 128, 129, 131072, 131071, 1 << 18}
	for k := 8; k <= 16; k++ {
		list = append(list, 1<<k-1, 1<<k, 1<<k+1, 1<<k+1<<(k-1))
	}
	return list
}

// isSize tells whether data may have so many bytes.
func isSize(size int) bool {
	return slices.Contains([]int{256, 512, 1024, 2048, 4096, 8192, 16384, 32768, 65536}, size)
}

// errorBy is the first error of a host that was made.
func errorBy(size int, number uint32, count int) api.Errno {
	switch {
	case !isSize(size):
		return api.ErrLength
	case number < 16 || number > 39:
		return api.ErrLibrary
	case count != countBy(number):
		return api.ErrCallArgs
	}
	return api.OK
}

// P17.4, R2: each size of data, each number, each number of words: the first error is told, beside it nothing, and a refused call leaves the host as it was.
func TestErrors(t *testing.T) {
	start := api.HostState{Console: []byte("so"), Vars: vars(2), Seed: 77, Clock: 5}
	h := mustLoad(t, start)
	numbers := []uint32{0, 15, 40, 100, 1<<31 + 16, none}
	for number := uint32(16); number < 40; number++ {
		numbers = append(numbers, number)
	}
	for _, size := range sizes() {
		data := make([]byte, size)
		for _, number := range numbers {
			for _, count := range []int{0, 1, 2, 3, 4, 15, 16} {
				want := errorBy(size, number, count)
				if want == api.OK {
					check(t, mustLoad(t, start), bookOf(start), data, number, make([]uint32, count)...)
					continue
				}
				r, err := h.Answer(data, api.Event{Number: number, Args: make([]uint32, count)})
				if err != want || !sameReply(r, api.Reply{}) {
					t.Fatalf("%d bytes, number %d, %d words: %v, %d, want %d", size, number, count, r, err, want)
				}
			}
		}
	}
	if !sameState(h.State(), start) {
		t.Errorf("the host became %v", h.State())
	}
}

// P17.4: no data at all, of nil too.
func TestNoData(t *testing.T) {
	h := host.New(1)
	for _, data := range [][]byte{nil, {}, make([]byte, 0, 256)} {
		if r, err := h.Answer(data, api.Event{Number: api.CallClock}); err != api.ErrLength || !sameReply(r, api.Reply{}) {
			t.Errorf("%v, %d", r, err)
		}
	}
}

// P17.4: words that are nil or none are one thing.
func TestNoWords(t *testing.T) {
	h := full(t, 9)
	data := make([]byte, 256)
	for _, args := range [][]uint32{nil, {}, make([]uint32, 0, 3)} {
		if r, err := h.Answer(data, api.Event{Number: api.CallClock, Args: args}); err != api.OK || !sameReply(r, api.Reply{}) {
			t.Errorf("clock: %v, %d", r, err)
		}
		if _, err := h.Answer(data, api.Event{Number: api.CallPrint, Args: args}); err != api.ErrCallArgs {
			t.Errorf("print: %d", err)
		}
	}
}

// P17.4: At and Value of what is asked are not looked at.
func TestAtAndValue(t *testing.T) {
	data := newDice(1).someData()
	for number := uint32(16); number < 40; number++ {
		args := make([]uint32, countBy(number))
		want := ask(t, host.New(3), data, number, args...)
		for _, x := range []uint32{1, 16, 100000, 1 << 31, none} {
			got, err := host.New(3).Answer(data, api.Event{At: x, Number: number, Args: args, Value: ^x})
			if err != api.OK || !sameReply(got, want) {
				t.Errorf("%s at %d: %v, %d, want %v", host.Word(number), x, got, err, want)
			}
		}
	}
}

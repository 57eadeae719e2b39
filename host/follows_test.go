package host_test

import (
	"bytes"
	"slices"
	"strings"
	"testing"

	"playpen/api"
	"playpen/host"
)

// P17.4, P17.7, P17.9: much scattered hosts, data and calls, all against the book.
func TestScattered(t *testing.T) {
	seen := map[uint32]int{}
	for round := range uint64(300) {
		d := newDice(100 + round)
		s := d.someState()
		h, b := mustLoad(t, s), bookOf(s)
		for range 6 {
			data := d.someData()
			for range 40 {
				number := uint32(16 + d.upTo(23))
				r := check(t, h, b, data, number, d.someArgs(number, len(data))...)
				seen[number*4+kindOf(r)]++
			}
			ticks := d.word()
			h.Tick(ticks)
			b.clock += ticks
		}
	}
	// Each call whose answers are of two kinds has shown both.
	for number := uint32(16); number < 40; number++ {
		kinds := 0
		for kind := range uint32(4) {
			if seen[number*4+kind] > 20 {
				kinds++
			}
		}
		two := number <= 20 || number >= 24 && number <= 27 || number == 36 || number == 39
		if kinds == 0 || two && kinds < 2 {
			t.Errorf("%s: %d kinds of answers", host.Word(number), kinds)
		}
	}
}

// kindOf tells answers apart: refused by a full console, with a write, with a nought, any other.
func kindOf(r api.Reply) uint32 {
	switch {
	case r.Value == none:
		return 0
	case len(r.Writes) > 0:
		return 1
	case r.Value == 0:
		return 2
	}
	return 3
}

// P17.7: the writes of each kind: four bytes of a word, eight of a point, up to 64 of a wave.
func TestWritesAreShort(t *testing.T) {
	h, data := sample()
	h.Set("x", 9)
	for _, x := range []struct {
		number uint32
		args   []uint32
		count  int
	}{
		{api.CallParse, []uint32{8, 1}, 4}, {api.CallParseF, []uint32{8, 2}, 4}, {api.CallGet, []uint32{16, 3}, 4},
		{api.CallAdd, []uint32{4, 32, 40}, 8}, {api.CallMul, []uint32{5, 32, 40}, 8}, {api.CallDiv, []uint32{6, 32, 40}, 8}, {api.CallTurn, []uint32{7, 32, 1}, 8},
		{api.CallWave, []uint32{8, 32, 1}, 8}, {api.CallWave, []uint32{8, 32, 2}, 16}, {api.CallWave, []uint32{8, 32, 4}, 32}, {api.CallWave, []uint32{none, 32, 8}, 64},
	} {
		if r := ask(t, h, data, x.number, x.args...); len(r.Writes) != 1 || len(r.Writes[0].Bytes) != x.count || !slices.Contains(x.args, r.Writes[0].At) {
			t.Errorf("%s: %v", host.Word(x.number), r)
		}
	}
}

// P17.8: an answer, and what the host holds behind it, hangs on no byte of the data that the call does not read.
func TestOnlyWhatIsRead(t *testing.T) {
	for round := range uint64(250) {
		d := newDice(1000 + round)
		s, data := d.someState(), d.someData()
		for number := uint32(16); number < 40; number++ {
			args := d.someArgs(number, len(data))
			read := readBy(data, number, args)
			other := bytes.Clone(data)
			for i := range other {
				if !read[i] {
					other[i] = byte(d.word())
				}
			}
			one, two := mustLoad(t, s), mustLoad(t, s)
			a, b := ask(t, one, data, number, args...), ask(t, two, other, number, args...)
			if !sameReply(a, b) || !sameState(one.State(), two.State()) {
				t.Fatalf("%s %x: %v and %v", host.Word(number), args, a, b)
			}
		}
	}
}

// P17.8: a call that reads no data answers the same with data of any size.
func TestSizesDoNotMatter(t *testing.T) {
	d := newDice(7)
	for _, number := range []uint32{api.CallPut, api.CallInt, api.CallHex, api.CallFloat, api.CallClear, api.CallSeed, api.CallRandom, api.CallClock, api.CallSqrt, api.CallFloor, api.CallAbs} {
		for range 20 {
			s, args := d.someState(), d.someArgs(number, 256)
			want := ask(t, mustLoad(t, s), make([]byte, 256), number, args...)
			for k := 9; k <= 16; k++ {
				if got := ask(t, mustLoad(t, s), bytes.Repeat([]byte{7}, 1<<k), number, args...); !sameReply(got, want) {
					t.Fatalf("%s %x: %v and %v", host.Word(number), args, got, want)
				}
			}
		}
	}
}

// P17.9: the calls that leave the host as it is, over scattered hosts and data.
func TestCallsThatLeave(t *testing.T) {
	for round := range uint64(150) {
		d := newDice(2000 + round)
		h, data := mustLoad(t, d.someState()), d.someData()
		before := h.State()
		for number := uint32(22); number < 40; number++ {
			if number >= 27 && number <= 29 {
				continue
			}
			ask(t, h, data, number, d.someArgs(number, len(data))...)
			if !sameState(h.State(), before) {
				t.Fatalf("%s changed the host", host.Word(number))
			}
		}
	}
	d := newDice(8)
	for number := uint32(16); number <= 20; number++ {
		for range 50 {
			h, data := full(t, 4096), d.someData()
			before := h.State()
			if r := ask(t, h, data, number, d.someArgs(number, len(data))...); r.Value != 0 && r.Value != none || !sameState(h.State(), before) {
				t.Fatalf("%s on a full console: %v", host.Word(number), r)
			}
		}
	}
}

// P17.10: random below a is below a, for scattered seeds and bounds, and comes to each number below a small one.
func TestRandomIsBelow(t *testing.T) {
	data := make([]byte, 256)
	d := newDice(9)
	for range 5000 {
		h := host.New(d.long())
		below := max(1, d.word()>>d.upTo(31))
		if r := ask(t, h, data, api.CallRandom, below); r.Value >= below {
			t.Fatalf("below %d: %d", below, r.Value)
		}
	}
	h := host.New(7)
	var came [6]int
	for range 6000 {
		came[ask(t, h, data, api.CallRandom, 6).Value]++
	}
	for side, count := range came {
		if count < 800 || count > 1200 {
			t.Errorf("%d came %d times of 6000", side, count)
		}
	}
}

// P17.10: a get writes what the last set of the name whose value was 1 has set, by the library or by Set.
func TestGetIsTheLastSet(t *testing.T) {
	names := strings.Split("a b c d e f g h i j k l m n o p q r s t u v w x y z aa bb cc dd ee ff gg hh ii jj", " ")
	names = append(names, "", strings.Repeat("n", 32), strings.Repeat("n", 33))
	for round := range uint64(30) {
		d := newDice(3000 + round)
		h := host.New(7)
		last := map[string]uint32{}
		for range 400 {
			name, value := names[d.upTo(len(names)-1)], d.word()
			done := false
			switch d.upTo(2) {
			case 0:
				done = h.Set(name, value) == api.OK
			case 1:
				done = ask(t, h, text(name), api.CallSet, 100, value).Value == 1
			}
			if done {
				last[name] = value
			}
			name = names[d.upTo(len(names)-1)]
			if want, is := last[name]; is {
				writes(t, h, text(name), 60, bytesBy(want), api.CallGet, 100, 60)
			} else {
				tells(t, h, text(name), 0, api.CallGet, 100, 60)
			}
		}
		if len(last) != 32 {
			t.Errorf("%d variables", len(last))
		}
	}
}

// P17.10: print of a text that parse reads puts just its bytes on the console, where they have room.
func TestPrintOfWhatIsRead(t *testing.T) {
	d := newDice(10)
	read := 0
	for range 3000 {
		said := d.someText()
		if d.upTo(1) == 0 {
			said = []string{"-", "0x", "0b", ""}[d.upTo(3)]
			for range 1 + d.upTo(9) {
				said += string("0110123456789abcdefABCDEF"[d.upTo(24)])
			}
		}
		h := full(t, 4096-d.upTo(20))
		before := h.Console()
		if ask(t, h, text(said), api.CallParse, 100, 0).Value != 1 {
			continue
		}
		read++
		if len(before)+len(said) > 4096 {
			tells(t, h, text(said), none, api.CallPrint, 100)
			consoleIs(t, h, before)
			continue
		}
		tells(t, h, text(said), uint32(len(said)), api.CallPrint, 100)
		consoleIs(t, h, before+said)
	}
	if read < 500 {
		t.Errorf("only %d texts were read", read)
	}
}

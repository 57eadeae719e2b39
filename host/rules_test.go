package host_test

import (
	"bytes"
	"slices"
	"strings"
	"sync"
	"testing"

	"playpen/api"
	"playpen/host"
)

// R3: arguments stay as they are, the spare room of their lists too, whatever the calls answer.
func TestArgumentsStay(t *testing.T) {
	for round := range uint64(60) {
		d := newDice(4000 + round)
		s := d.someState()
		s.Console = append(slices.Clone(s.Console), 77, 78)[:len(s.Console)]
		s.Vars = append(slices.Clone(s.Vars), api.Var{Name: "spare", Value: 77})[:len(s.Vars)]
		kept := api.HostState{Console: bytes.Clone(s.Console[:len(s.Console)+2]), Vars: slices.Clone(s.Vars[:len(s.Vars)+1])}
		h := mustLoad(t, s)
		size := 256
		data := append(d.someData()[:size:size], bytes.Repeat([]byte{77}, 300)...)
		keptData := bytes.Clone(data)
		for range 60 {
			number := uint32(15 + d.upTo(25))
			args := []uint32{d.someAddress(size), d.someAddress(size), d.someAddress(size), 77, 78}
			keptArgs := slices.Clone(args)
			h.Answer(data[:[]int{size, size, size, 100}[d.upTo(3)]], api.Event{Number: number, Args: args[:max(0, countBy(number))]})
			if !slices.Equal(args, keptArgs) || !bytes.Equal(data, keptData) {
				t.Fatalf("number %d: an argument changed", number)
			}
		}
		if !bytes.Equal(s.Console[:len(s.Console)+2], kept.Console) || !slices.Equal(s.Vars[:len(s.Vars)+1], kept.Vars) {
			t.Fatal("the state that was loaded changed")
		}
	}
}

// R3: what was handed in may be written over: nothing of it is seen in the host.
func TestNothingIsKept(t *testing.T) {
	s := api.HostState{Console: append(make([]byte, 0, 5000), "so "...), Vars: append(make([]api.Var, 0, 40), vars(3)...), Seed: 77, Clock: 5}
	b := bookOf(s)
	h := mustLoad(t, s)
	spoil(s.Console, '!')
	spoil(s.Vars, api.Var{Name: "!", Value: 1})
	checkHolds(t, h, b)
	for _, number := range []uint32{api.CallPrint, api.CallSet, api.CallPrint} {
		data, args := text("name"), []uint32{100, 5}
		args = args[:countBy(number)]
		check(t, h, b, data, number, args...)
		spoil(data, '!')
		spoil(args, 1)
		checkHolds(t, h, b)
	}
	name := []byte("other")
	h.Set(string(name), 6)
	b.set("other", 6)
	spoil(name, '!')
	checkHolds(t, h, b)
	writes(t, h, text("name"), 60, bytesBy(5), api.CallGet, 100, 60)
}

// R3: what is answered is new memory at each call, its spare room too: the host, the data and other answers have no part in it.
func TestAnswersAreTheirOwn(t *testing.T) {
	d := newDice(11)
	for range 40 {
		s := d.someState()
		h, b, data := mustLoad(t, s), bookOf(s), d.someData()
		kept := bytes.Clone(data)
		first, second := h.State(), h.State()
		spoil(first.Console, '!')
		spoil(first.Vars, api.Var{Name: "!", Value: 1})
		if !sameState(second, s) {
			t.Fatal("two states have a part in one another")
		}
		checkHolds(t, h, b)
		for number := uint32(16); number < 40; number++ {
			args := d.someArgs(number, len(data))
			r := check(t, h, b, data, number, args...)
			for _, w := range r.Writes {
				spoil(w.Bytes, '!')
			}
			spoil(r.Writes, api.Write{At: 77})
			if !bytes.Equal(data, kept) {
				t.Fatalf("%s: the data have a part in the reply", host.Word(number))
			}
			checkHolds(t, h, b)
			if number >= 22 && number <= 26 || number >= 30 {
				check(t, h, b, data, number, args...)
			}
		}
	}
	one, other := host.Grants(), host.Grants()
	spoil(one, api.Grant{Number: 77})
	if again := host.Grants(); !slices.Equal(other, again) || other[0] != (api.Grant{Number: 16, Args: 1}) {
		t.Errorf("Grants became %v", again)
	}
}

// R3: a state that was told stays, whatever the host does later.
func TestToldStays(t *testing.T) {
	h := mustLoad(t, api.HostState{Console: []byte("so"), Vars: vars(3), Seed: 77, Clock: 5})
	s, console := h.State(), h.Console()
	kept := clonedState(s)
	data := text("x")
	for _, number := range []uint32{api.CallPrint, api.CallSet, api.CallClear, api.CallPrint, api.CallRandom, api.CallPut, api.CallSeed} {
		ask(t, h, data, number, []uint32{100, 100}[:countBy(number)]...)
		h.Tick(1)
		h.Set("v00", 99)
		if !sameState(s, kept) || console != "so" {
			t.Fatalf("%s: what was told became %v, %q", host.Word(number), s, console)
		}
	}
}

// R4: what a host answers does not hang on what other hosts do.
func TestHostsAreApart(t *testing.T) {
	d := newDice(12)
	var hosts []*host.Host
	var books []*book
	for range 10 {
		s := d.someState()
		hosts, books = append(hosts, mustLoad(t, s)), append(books, bookOf(s))
	}
	for range 1000 {
		i := d.upTo(9)
		data, number := d.someData(), uint32(16+d.upTo(23))
		check(t, hosts[i], books[i], data, number, d.someArgs(number, len(data))...)
	}
	for i, h := range hosts {
		checkHolds(t, h, books[i])
	}
}

// R4: hosts of their own may be asked side by side, over the same data.
func TestSideBySide(t *testing.T) {
	data := newDice(13).someData()
	kept := bytes.Clone(data)
	var all sync.WaitGroup
	for n := range uint64(8) {
		all.Go(func() {
			d := newDice(5000 + n)
			s := d.someState()
			h, err := host.Load(s)
			if err != api.OK {
				t.Error(err)
				return
			}
			b := bookOf(s)
			for range 300 {
				number := uint32(16 + d.upTo(23))
				args := d.someArgs(number, len(data))
				r, err := h.Answer(data, api.Event{Number: number, Args: args})
				if err != api.OK || !sameReply(r, b.answer(data, number, args)) || !sameState(h.State(), b.state()) {
					t.Errorf("%s %x: %v, %d", host.Word(number), args, r, err)
				}
			}
		})
	}
	all.Wait()
	if !bytes.Equal(data, kept) {
		t.Error("the data changed")
	}
}

// mayBeBy tells by the chapter's words whether a host may hold a state.
func mayBeBy(s api.HostState) bool {
	for i, v := range s.Vars {
		if len(v.Name) < 1 || len(v.Name) > 32 || strings.Contains(v.Name, "\x00") || i > 0 && strings.Compare(s.Vars[i-1].Name, v.Name) >= 0 {
			return false
		}
	}
	return len(s.Console) <= 4096 && len(s.Vars) <= 32 && s.Seed != 0
}

// R1: no call panics, at whatever it is given, and each does what its promise says.
func FuzzEveryCall(f *testing.F) {
	f.Add([]byte("so"), "a", "b", uint64(7), uint32(5), []byte("41\x00hi"), uint32(24), uint32(0), uint32(100), uint32(2), byte(2), byte(8))
	f.Add(make([]byte, 4096), "", "", uint64(0), uint32(none), []byte{}, uint32(16), uint32(none), uint32(none), uint32(none), byte(1), byte(16))
	f.Add(make([]byte, 4097), "b", "a", uint64(1), uint32(0), bytes.Repeat([]byte{0xFF}, 300), uint32(39), uint32(1), uint32(250), uint32(8), byte(3), byte(9))
	f.Add([]byte{}, "\x00", "x", uint64(1)<<63, uint32(1), []byte("x"), uint32(27), uint32(0), uint32(3), uint32(3), byte(2), byte(7))
	f.Add([]byte{}, "x", "y", uint64(1), uint32(1), []byte("0x1.8p1"), uint32(25), uint32(0), uint32(3), uint32(3), byte(2), byte(8))
	f.Fuzz(func(t *testing.T, console []byte, one, two string, seed uint64, clock uint32, b []byte, number, x, y, z uint32, count, k byte) {
		s := api.HostState{Console: console, Vars: []api.Var{{Name: one, Value: x}, {Name: two, Value: y}}, Seed: seed, Clock: clock}
		h, err := host.Load(s)
		if (h != nil) != mayBeBy(s) || (err == api.OK) != mayBeBy(s) || err != api.OK && err != api.ErrHost {
			t.Fatalf("Load: %v, %d", h, err)
		}
		if h == nil {
			h = host.New(seed)
			s = api.HostState{Seed: max(seed, 1)}
		}
		model := bookOf(s)
		checkHolds(t, h, model)
		data := make([]byte, 1<<(k%18))
		copy(data, b)
		args := make([]uint32, count%17)
		copy(args, []uint32{x, y, z})
		want := errorBy(len(data), number, len(args))
		if want == api.OK {
			check(t, h, model, data, number, args...)
		} else if r, err := h.Answer(data, api.Event{Number: number, Args: args}); err != want || !sameReply(r, api.Reply{}) {
			t.Fatalf("Answer: %v, %d, want %d", r, err, want)
		}
		for any := uint32(16); any < 40; any++ {
			check(t, h, model, with(256<<(k%3), z, b[:min(len(b), 200)]), any, []uint32{x, y, z}[:countBy(any)]...)
		}
		name, _ := host.ByWord(one)
		if word := host.Word(number); (word != "") != (number >= 16 && number <= 39) || name != 0 && host.Word(name) != one {
			t.Fatalf("Word(%d): %q, ByWord(%q): %d", number, word, one, name)
		}
	})
}

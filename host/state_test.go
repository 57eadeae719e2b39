package host_test

import (
	"bytes"
	"slices"
	"strings"
	"testing"

	"playpen/api"
	"playpen/host"
)

// P17.2: a new host holds nothing but its seed.
func TestNew(t *testing.T) {
	for seed, want := range map[uint64]uint64{0: 1, 1: 1, 2: 2, 7: 7, 1 << 32: 1 << 32, 1 << 63: 1 << 63, 1<<64 - 1: 1<<64 - 1} {
		h := host.New(seed)
		if h == nil || !sameState(h.State(), api.HostState{Seed: want}) {
			t.Fatalf("New(%d): %v", seed, h.State())
		}
		consoleIs(t, h, "")
		if _, err := h.Get("x"); err != api.ErrVar {
			t.Errorf("New(%d): a variable: %d", seed, err)
		}
		tells(t, h, make([]byte, 256), 0, api.CallClock)
	}
}

// loads wants a state to be taken, and to be told again.
func loads(t testing.TB, s api.HostState) *host.Host {
	t.Helper()
	h, err := host.Load(s)
	if h == nil || err != api.OK {
		t.Fatalf("Load(%v): %d", s, err)
	}
	if got := h.State(); !sameState(got, s) {
		t.Fatalf("State of Load(%v): %v", s, got)
	}
	if got := h.Console(); got != string(s.Console) {
		t.Fatalf("Console of Load(%v): %q", s, got)
	}
	for _, v := range s.Vars {
		if got, err := h.Get(v.Name); got != v.Value || err != api.OK {
			t.Fatalf("Get(%q): %d, %d", v.Name, got, err)
		}
	}
	return h
}

// refuses wants a state to be refused.
func refuses(t testing.TB, s api.HostState) {
	t.Helper()
	if h, err := host.Load(s); h != nil || err != api.ErrHost {
		t.Errorf("Load(%v): %v, %d", s, h, err)
	}
}

// named gives a state with variables of these names.
func named(names ...string) api.HostState {
	s := api.HostState{Seed: 1}
	for i, name := range names {
		s.Vars = append(s.Vars, api.Var{Name: name, Value: uint32(i) + 5})
	}
	return s
}

// P17.3: what a host may hold, up to the edges.
func TestLoad(t *testing.T) {
	loads(t, api.HostState{Seed: 1})
	loads(t, api.HostState{Console: []byte{}, Vars: []api.Var{}, Seed: 1<<64 - 1, Clock: none})
	for _, count := range []int{1, 255, 4095, 4096} {
		loads(t, api.HostState{Console: bytes.Repeat([]byte{0xFF}, count), Seed: 1})
	}
	every := make([]byte, 256)
	for i := range every {
		every[i] = byte(i)
	}
	// A console has any bytes, also such as no call puts there.
	loads(t, api.HostState{Console: every, Seed: 1})
	for count := range 33 {
		loads(t, api.HostState{Vars: vars(count), Seed: 1 << 63, Clock: uint32(count)})
	}
	for _, names := range [][]string{
		{"a"}, {"a", "b"}, {"a", "aa", "ab", "b"}, {"B", "a"}, {"\x01", "\x02"}, {"\x7f", "\x80", "\xff"}, {"z", "\u00e9", "\u20ac", "\U0001F600"}, {"\uffff", "\U00010000"}, {"1", "10", "2"}, {" ", "!"},
		{strings.Repeat("a", 32)}, {strings.Repeat("a", 31), strings.Repeat("a", 32)}, {strings.Repeat("a", 32), strings.Repeat("a", 31) + "b"},
	} {
		loads(t, named(names...))
	}
	for _, value := range []uint32{0, 1, 1 << 31, none} {
		loads(t, api.HostState{Vars: []api.Var{{Name: "a", Value: value}}, Seed: 1})
	}
}

// P17.3: what no host may hold.
func TestLoadRefuses(t *testing.T) {
	refuses(t, api.HostState{})
	refuses(t, api.HostState{Console: []byte("a"), Vars: vars(2), Clock: 3})
	for _, count := range []int{4097, 4098, 8192, 1 << 20} {
		refuses(t, api.HostState{Console: make([]byte, count), Seed: 1})
	}
	for _, count := range []int{33, 34, 64, 99} {
		refuses(t, api.HostState{Vars: vars(count), Seed: 1})
	}
	for _, names := range [][]string{
		{""}, {"", "a"}, {"\x00"}, {"a\x00"}, {"\x00a"}, {"a\x00b"}, {strings.Repeat("a", 31) + "\x00"}, {strings.Repeat("a", 33)}, {strings.Repeat("\u00e9", 17)}, {strings.Repeat("a", 1000)},
		{"a", "a"}, {"b", "a"}, {"a", "B"}, {"aa", "a"}, {"\x80", "\x7f"}, {"\U00010000", "\uffff"}, {"2", "10"}, {"a", "c", "b"}, {"a", "b", "b"}, {"a", "b", "a"}, {"b", "a", "c"}, {"a", "b\x00"}, {"a", strings.Repeat("b", 33)},
	} {
		refuses(t, named(names...))
	}
}

// P17.3: one wrong variable is enough, wherever it stands among 32.
func TestLoadRefusesEach(t *testing.T) {
	for i := range 32 {
		for _, name := range []string{"", "\x00", vars(32)[i].Name + "\x00", vars(32)[i].Name + strings.Repeat("a", 30), vars(32)[(i+1)%32].Name, vars(32)[(i+31)%32].Name} {
			s := api.HostState{Vars: vars(32), Seed: 1}
			s.Vars[i].Name = name
			refuses(t, s)
		}
		// Two that have changed places.
		s := api.HostState{Vars: vars(32), Seed: 1}
		s.Vars[i], s.Vars[(i+1)%32] = s.Vars[(i+1)%32], s.Vars[i]
		refuses(t, s)
	}
}

// P17.3: State tells the variables rising, byte by byte, in whatever order they were set, and the same at each call.
func TestStateRises(t *testing.T) {
	names := []string{"b", "a", "\xff", "B", "aa", "\u00e9", "10", "2", " ", "\x01", "zz", "z", "ab", "\U00010000", "\uffff", "~"}
	var want []string
	d := newDice(5)
	for range 50 {
		h := host.New(7)
		for i := range names {
			j := d.upTo(i)
			names[i], names[j] = names[j], names[i]
		}
		for i, name := range names {
			if err := h.Set(name, uint32(i)); err != api.OK {
				t.Fatal(err)
			}
		}
		for range 5 {
			var got []string
			for _, v := range h.State().Vars {
				got = append(got, v.Name)
				if names[v.Value] != v.Name {
					t.Fatalf("%q has the value of %q", v.Name, names[v.Value])
				}
			}
			if want == nil {
				want = slices.Sorted(slices.Values(names))
			}
			if !slices.Equal(got, want) {
				t.Fatalf("%q", got)
			}
		}
		loads(t, h.State())
	}
}

// P17.3: a host that was loaded from another one's state answers everything as that one does, from then on; and neither sees what the other one does.
func TestLoadedAnswersAlike(t *testing.T) {
	d := newDice(6)
	for range 60 {
		h := mustLoad(t, d.someState())
		data := d.someData()
		for range d.upTo(20) {
			number := uint32(16 + d.upTo(23))
			ask(t, h, data, number, d.someArgs(number, len(data))...)
		}
		kept := h.State()
		other := mustLoad(t, h.State())
		for range 60 {
			number := uint32(16 + d.upTo(23))
			args := d.someArgs(number, len(data))
			one, two := ask(t, h, data, number, args...), ask(t, other, data, number, args...)
			if !sameReply(one, two) || !sameState(h.State(), other.State()) {
				t.Fatalf("%s %x: %v and %v", host.Word(number), args, one, two)
			}
			ticks := d.word()
			h.Tick(ticks)
			other.Tick(ticks)
		}
		third := mustLoad(t, kept)
		other.Tick(1)
		other.Set("only", 1)
		ask(t, other, data, api.CallPut, 'o')
		ask(t, other, data, api.CallRandom, 0)
		if !sameState(third.State(), kept) || h.State().Clock+1 != other.State().Clock {
			t.Fatal("a host sees what another one does")
		}
	}
}

// P17.5: Set and Get: names of 0, 1, 32 and 33 bytes, and with noughts.
func TestSetNames(t *testing.T) {
	h := crowded(t, 2)
	before := h.State()
	for _, name := range []string{"", "\x00", "a\x00", "\x00a", "a\x00b", "v00\x00", strings.Repeat("a", 33), strings.Repeat("a", 32) + "\x00", strings.Repeat("\u00e9", 17), strings.Repeat("a", 100000)} {
		if err := h.Set(name, 1); err != api.ErrVar {
			t.Errorf("Set(%q): %d", name, err)
		}
		if got, err := h.Get(name); got != 0 || err != api.ErrVar {
			t.Errorf("Get(%q): %d, %d", name, got, err)
		}
	}
	if !sameState(h.State(), before) {
		t.Error("a set that was refused changed something")
	}
	for i, name := range []string{"a", "\x01", "\xff", "\n", "v0", "v000", strings.Repeat("a", 31), strings.Repeat("a", 32), strings.Repeat("\u00e9", 16)} {
		if got, err := h.Get(name); got != 0 || err != api.ErrVar {
			t.Errorf("Get(%q) ahead: %d, %d", name, got, err)
		}
		for _, value := range []uint32{uint32(i), 0, none} {
			if err := h.Set(name, value); err != api.OK {
				t.Errorf("Set(%q): %d", name, err)
			}
			if got, err := h.Get(name); got != value || err != api.OK {
				t.Errorf("Get(%q): %d, %d", name, got, err)
			}
		}
	}
	if got := len(h.State().Vars); got != 11 {
		t.Errorf("%d variables", got)
	}
}

// P17.5: 32 variables and one more; ErrVar comes ahead of ErrVars; one that is there is set all the same.
func TestSetWhenThereAre32(t *testing.T) {
	h := crowded(t, 31)
	if err := h.Set("w", 1); err != api.OK {
		t.Fatal(err)
	}
	before := h.State()
	for name, want := range map[string]api.Errno{"y": api.ErrVars, strings.Repeat("y", 32): api.ErrVars, "v": api.ErrVars, "": api.ErrVar, "y\x00": api.ErrVar, strings.Repeat("y", 33): api.ErrVar} {
		if err := h.Set(name, 1); err != want {
			t.Errorf("Set(%q): %d, want %d", name, err, want)
		}
	}
	if !sameState(h.State(), before) {
		t.Error("a set that was refused changed something")
	}
	for i, v := range before.Vars {
		if err := h.Set(v.Name, uint32(i)+77); err != api.OK {
			t.Errorf("Set(%q): %d", v.Name, err)
		}
		if got, err := h.Get(v.Name); got != uint32(i)+77 || err != api.OK {
			t.Errorf("Get(%q): %d, %d", v.Name, got, err)
		}
	}
	if got := len(h.State().Vars); got != 32 {
		t.Errorf("%d variables", got)
	}
}

// P17.6, R1: a host that is nil or that was not made tells nothing and refuses everything with ErrNil, ahead of any other error; nothing comes of it.
func TestUnmade(t *testing.T) {
	for what, h := range unmade(t) {
		if got := h.State(); !sameState(got, api.HostState{}) {
			t.Errorf("%s: State: %v", what, got)
		}
		if got := h.Console(); got != "" {
			t.Errorf("%s: Console: %q", what, got)
		}
		for _, size := range []int{0, 100, 256, 65536, 131072} {
			for _, number := range []uint32{0, 15, 16, 21, 27, 29, 30, 39, 40, none} {
				for count := range 5 {
					r, err := h.Answer(make([]byte, size), api.Event{Number: number, Args: make([]uint32, count)})
					if err != api.ErrNil || !sameReply(r, api.Reply{}) {
						t.Errorf("%s: Answer: %v, %d", what, r, err)
					}
				}
			}
		}
		if err := h.Tick(1); err != api.ErrNil {
			t.Errorf("%s: Tick: %d", what, err)
		}
		for _, name := range []string{"", "a", "v00", "a\x00", strings.Repeat("a", 33)} {
			if got, err := h.Get(name); got != 0 || err != api.ErrNil {
				t.Errorf("%s: Get(%q): %d, %d", what, name, got, err)
			}
			if err := h.Set(name, 1); err != api.ErrNil {
				t.Errorf("%s: Set(%q): %d", what, name, err)
			}
		}
		if got := h.State(); !sameState(got, api.HostState{}) || h.Console() != "" {
			t.Errorf("%s: something came of it: %v", what, got)
		}
	}
}

// P17.6: what a copy by hand is asked for is not seen in the host from which it was taken, which goes on as ever.
func TestCopyByHand(t *testing.T) {
	h := loads(t, api.HostState{Console: []byte("so"), Vars: vars(3), Seed: 77, Clock: 5})
	before := h.State()
	byHand := *h
	byHand.Set("x", 1)
	byHand.Tick(1)
	for number := uint32(16); number < 40; number++ {
		byHand.Answer(text("x"), api.Event{Number: number, Args: make([]uint32, countBy(number))})
	}
	if !sameState(h.State(), before) {
		t.Errorf("%v", h.State())
	}
	check(t, h, bookOf(before), text("x"), api.CallSet, 100, 5)
}

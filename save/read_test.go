package save_test

import (
	"math"
	"slices"
	"testing"

	"playpen/api"
	"playpen/save"
)

// wrong is a way to spoil a save, and what is told of it.
type wrong struct {
	what  string
	spoil func(d *draft)
	at    int
	err   api.Errno
}

// headWrongs spoil what Look looks at, in the order in which it tells of it.
func headWrongs() []wrong {
	return []wrong{
		{"other first bytes", func(d *draft) { d.opening = "SAV?" }, 0, api.ErrSaved},
		{"the version", func(d *draft) { d.version = 2 }, 4, api.ErrSaved},
		{"a kind that is none", func(d *draft) { d.kind = 2 }, 16, api.ErrSaved},
		{"the mark of no base", func(d *draft) { d.kind, d.base = 0, 5 }, 20, api.ErrSaved},
		{"the sum", func(d *draft) { d.wrong = 1 }, 24, api.ErrSaved},
	}
}

// stateWrongs spoil what Load and Apply look at behind that, in their order. The save has two words and the runs of the bytes 5 and 9 to 11.
func stateWrongs() []wrong {
	return []wrong{
		{"another digest", func(d *draft) { d.module++ }, 8, api.ErrForeign},
		{"the other kind", func(d *draft) { d.kind, d.base = 1-d.kind, 0 }, 16, api.ErrBase},
		{"another base", func(d *draft) { d.base++; d.kind = 1 }, 20, api.ErrBase},
		{"a byte more", func(d *draft) { d.rest = []byte{0} }, 28, api.ErrSaved},
		{"no such PC", func(d *draft) { d.pc = 7 }, 28, api.ErrState},
	}
}

// subject gives a state with two words, and other bytes than in data handed in at 5 and 9 to 11.
func subject(m made, data []byte) api.State {
	s := stands(m, 3, 184, 1, 2)
	s.Data = data
	return turned(s, 5, 9, 10, 11)
}

// elsewhere gives a base for subject.
func elsewhere(m made) api.State { return turned(stands(m, 1, 184), 0, 5, 8, 10, 255) }

// P20.3: each fault of a head by itself, and with each later one besides; for Load and Apply too.
func TestLookOrder(t *testing.T) {
	m := sample(t)
	from := elsewhere(m)
	for _, right := range []func() draft{
		func() draft { return whole(m, subject(m, m.fresh().Data)) },
		func() draft { return going(m, from, subject(m, from.Data)) },
	} {
		all := append(headWrongs(), stateWrongs()...)
		for i, first := range headWrongs() {
			for _, second := range all[i:] {
				d := right()
				second.spoil(&d)
				first.spoil(&d)
				b := d.file()
				if head, at, err := save.Look(b); head != (api.Saved{}) || at != first.at || err != first.err {
					t.Errorf("%s, and %s: %+v, %d, %d", first.what, second.what, head, at, err)
				}
				wantLoad(t, first.what, m, b, first.at, first.err)
				wantApply(t, first.what, m, from, b, first.at, first.err)
			}
		}
	}
}

// P20.4: each fault behind the head by itself, and with each later one besides.
func TestLoadOrder(t *testing.T) {
	m := sample(t)
	for i, first := range stateWrongs() {
		if first.at == 20 {
			// A whole save has no base.
			continue
		}
		for _, second := range stateWrongs()[i:] {
			d := whole(m, subject(m, m.fresh().Data))
			if second.at != 20 {
				second.spoil(&d)
			}
			if second.what != first.what {
				first.spoil(&d)
			}
			b := d.file()
			wantLoad(t, first.what+", and "+second.what, m, b, first.at, first.err)
			if _, at, err := save.Look(b); at != 0 || err != api.OK {
				t.Errorf("Look, %s: %d, %d", first.what, at, err)
			}
		}
	}
}

// P20.5: the same of Apply; and from a state that does not fit ErrState, 0, whatever the bytes are.
func TestApplyOrder(t *testing.T) {
	m := sample(t)
	from := elsewhere(m)
	for i, first := range stateWrongs() {
		for _, second := range stateWrongs()[i:] {
			d := going(m, from, subject(m, from.Data))
			second.spoil(&d)
			if second.what != first.what {
				first.spoil(&d)
			}
			if d.kind == 0 {
				d.base = 0
			}
			wantApply(t, first.what+", and "+second.what, m, from, d.file(), first.at, first.err)
			for what, unfit := range misfits(t) {
				if s, at, err := save.Apply(m.Module, unfit, d.file()); !isZero(s) || at != 0 || err != api.ErrState {
					t.Errorf("from %s: %d, %d", what, at, err)
				}
			}
		}
	}
	for _, b := range [][]byte{nil, going(m, from, subject(m, from.Data)).file()} {
		for what, unfit := range misfits(t) {
			if s, at, err := save.Apply(m.Module, unfit, b); !isZero(s) || at != 0 || err != api.ErrState {
				t.Errorf("from %s: %d, %d", what, at, err)
			}
		}
	}
}

// P20.3: fewer bytes than a head has, whatever they are.
func TestLookLengths(t *testing.T) {
	m := sample(t)
	b := checkBack(t, m, subject(m, m.fresh().Data))
	for n := range 48 {
		for _, few := range [][]byte{b[:n], make([]byte, n)} {
			if head, at, err := save.Look(few); head != (api.Saved{}) || at != n || err != api.ErrSaved {
				t.Errorf("%d bytes: %+v, %d, %d", n, head, at, err)
			}
			wantLoad(t, "a short one", m, few, n, api.ErrSaved)
			wantApply(t, "a short one", m, m.fresh(), few, n, api.ErrSaved)
		}
	}
	if _, at, err := save.Look(make([]byte, 48)); at != 0 || err != api.ErrSaved {
		t.Errorf("48 noughts: %d, %d", at, err)
	}
}

// P20.3, P20.4, P20.5: each bit of a save turned, with the sum as it was and made right.
func TestEachBit(t *testing.T) {
	m := sample(t)
	from := elsewhere(m)
	for _, d := range []draft{whole(m, subject(m, m.fresh().Data)), going(m, from, subject(m, from.Data)), whole(m, m.fresh()), going(m, from, from)} {
		b := d.file()
		for at := range b {
			for bit := range 8 {
				c := slices.Clone(b)
				c[at] ^= 1 << bit
				for _, x := range [][]byte{c, sealed(c)} {
					checkLoad(t, m, x)
					checkApply(t, m, from, x)
				}
			}
		}
	}
}

// P20.3: what the head says is told whatever it is, and what stands behind it does not count, as long as the sum is right.
func TestLookTells(t *testing.T) {
	for _, d := range []draft{
		{life: 255, pc: 0xFFFFFFFF, module: math.MaxUint64, kind: 1, base: 0xFFFFFFFF},
		{life: 4, pc: 1, kind: 1},
		{life: 3, pc: 7, module: 1 << 32, rest: []byte("what is no state")},
		{words: 9, count: 0xFFFFFFFF, kind: 1, base: 0x01020304, module: 0x0102030405060708, pc: 0x01020304, rest: make([]byte, 300)},
		{fault: 200, sp: 3, value: 5},
	} {
		d.opening, d.version = "SAV!", 1
		want := api.Saved{Module: d.module, Delta: d.kind == 1, Base: d.base, Life: api.Life(d.life), PC: d.pc}
		if head, at, err := save.Look(d.file()); head != want || at != 0 || err != api.OK {
			t.Errorf("%+v, %d, %d; want %+v", head, at, err, want)
		}
	}
	for _, kind := range list(2, 3, 0x100, 0x10000, 0x01000000, 0xFFFFFFFF) {
		d := draft{opening: "SAV!", version: 1, kind: kind}
		if _, at, err := save.Look(d.file()); at != 16 || err != api.ErrSaved {
			t.Errorf("the kind %#x: %d, %d", kind, at, err)
		}
	}
}

// eachBase does something with the drafts of a save of subject, whole and not: read wants it refused or taken.
func eachBase(m made, do func(d func() draft, read func(t testing.TB, what string, b []byte, at int, err api.Errno))) {
	from := elsewhere(m)
	do(func() draft { return whole(m, subject(m, m.fresh().Data)) }, func(t testing.TB, what string, b []byte, at int, err api.Errno) {
		t.Helper()
		wantLoad(t, what, m, b, at, err)
	})
	do(func() draft { return going(m, from, subject(m, from.Data)) }, func(t testing.TB, what string, b []byte, at int, err api.Errno) {
		t.Helper()
		wantApply(t, what, m, from, b, at, err)
	})
}

// P20.4, P20.5: bytes that are no state's: in each way in which its parts may be wrong.
func TestNoState(t *testing.T) {
	m := sample(t)
	eachBase(m, func(fresh func() draft, read func(t testing.TB, what string, b []byte, at int, err api.Errno)) {
		other := func(p piece, i int) byte { return p.bytes[i] ^ 0xA5 }
		for _, x := range []struct {
			what  string
			spoil func(d *draft)
		}{
			{"a byte more", func(d *draft) { d.rest = []byte{0} }},
			{"many bytes more", func(d *draft) { d.rest = make([]byte, 1000) }},
			{"a word less than it says", func(d *draft) { d.ops = d.ops[:1] }},
			{"a word more than it says", func(d *draft) { d.ops = append(d.ops, 3) }},
			{"one word, it says", func(d *draft) { d.words = 1 }},
			{"three words, it says", func(d *draft) { d.words = 3 }},
			{"256 words more, it says", func(d *draft) { d.words += 256 }},
			{"the most words, it says", func(d *draft) { d.words = 65535 }},
			{"a run less, it says", func(d *draft) { d.count = 1 }},
			{"no runs, it says", func(d *draft) { d.count = 0 }},
			{"a run more, it says", func(d *draft) { d.count = 3 }},
			{"more runs than there may be, it says", func(d *draft) { d.count = 129 }},
			{"the most runs, it says", func(d *draft) { d.count = 0xFFFFFFFF }},
			{"a run more of no bytes", func(d *draft) { d.count, d.pieces = 3, append(d.pieces, piece{at: 20}) }},
			{"a run of no bytes at the end", func(d *draft) { d.count, d.pieces = 3, append(d.pieces, piece{at: 256}) }},
			{"a run of no bytes between", func(d *draft) { d.count, d.pieces = 3, slices.Insert(d.pieces, 1, piece{at: 7}) }},
			{"a run of no bytes alone", func(d *draft) { d.count, d.pieces = 1, []piece{{at: 0}} }},
			{"runs side by side", func(d *draft) { d.pieces[1].at = 6 }},
			{"a run cut in two", func(d *draft) {
				last := d.pieces[1]
				d.count, d.pieces = 3, []piece{d.pieces[0], {9, 1, last.bytes[:1]}, {10, 2, last.bytes[1:]}}
			}},
			{"runs over one another", func(d *draft) { d.pieces[1].at = 5 }},
			{"runs that do not rise", func(d *draft) { slices.Reverse(d.pieces) }},
			{"the same run twice", func(d *draft) { d.count, d.pieces = 3, append(d.pieces, d.pieces[1]) }},
			{"a run over the end", func(d *draft) { d.pieces[1].at = 254 }},
			{"a run just behind the end", func(d *draft) { d.pieces[1].at = 256 }},
			{"a run far behind the end", func(d *draft) { d.pieces[1].at = 0xFFFFFFFE }},
			{"a run that would come round", func(d *draft) { d.pieces[0].at = 0xFFFFFFFF }},
			{"a run that says a byte less", func(d *draft) { d.pieces[1].length = 2 }},
			{"a run that says a byte more", func(d *draft) { d.pieces[1].length = 4 }},
			{"a run of more than there are", func(d *draft) { d.pieces[0].length = 1000 }},
			{"a run of the most bytes", func(d *draft) { d.pieces[0].length = 0xFFFFFFFF }},
			{"a last run of the most bytes", func(d *draft) { d.pieces[1].length = 0xFFFFFFFF }},
			{"a run of the base's bytes", func(d *draft) { d.pieces[0].bytes[0] = other(d.pieces[0], 0) }},
			{"a run whose first byte is the base's", func(d *draft) { d.pieces[1].bytes[0] = other(d.pieces[1], 0) }},
			{"a run whose middle byte is the base's", func(d *draft) { d.pieces[1].bytes[1] = other(d.pieces[1], 1) }},
			{"a run whose last byte is the base's", func(d *draft) { d.pieces[1].bytes[2] = other(d.pieces[1], 2) }},
		} {
			d := fresh()
			x.spoil(&d)
			read(t, x.what, d.file(), 28, api.ErrSaved)
			// A state that would not fit besides is not looked at.
			d.life = 9
			read(t, x.what, d.file(), 28, api.ErrSaved)
		}
		// Cut off at every place behind the head.
		b := fresh().file()
		for n := 48; n < len(b); n++ {
			read(t, "cut off", sealed(b[:n]), 28, api.ErrSaved)
		}
	})
}

// P20.4, P20.5: the saves of states that do not fit, each in one part.
func TestNoFit(t *testing.T) {
	m := sample(t)
	from := elsewhere(m)
	for what, s := range misfits(t) {
		if len(s.Data) != 256 {
			continue
		}
		wantLoad(t, what, m, whole(m, s).file(), 28, api.ErrState)
		wantApply(t, what, m, from, going(m, from, s).file(), 28, api.ErrState)
	}
}

// P20.4, P20.5: each number that a part of the head may have, near its edges: what fits is taken, and nothing else.
func TestEachPart(t *testing.T) {
	m := sample(t)
	from := elsewhere(m)
	taken := 0
	try := func(d draft) {
		t.Helper()
		if _, _, err := checkLoad(t, m, d.file()); err == api.OK {
			taken++
		}
		d.kind, d.base = 1, markBy(m, from)
		checkApply(t, m, from, d.file())
	}
	for _, s := range lived(t) {
		for x := range 256 {
			d := whole(m, s)
			d.life = byte(x)
			try(d)
			d = whole(m, s)
			d.fault = byte(x)
			try(d)
			d = whole(m, s)
			d.pc = uint32(x)
			try(d)
			d = whole(m, s)
			d.sp = uint32(x)
			try(d)
		}
		for _, x := range list(0, 1, 0x100, 0x10000, 0x01000000, 0xFFFFFFFF) {
			d := whole(m, s)
			d.value = x
			try(d)
			d = whole(m, s)
			d.pc += x << 8
			try(d)
			d = whole(m, s)
			d.sp += x << 8
			try(d)
		}
		for count := range 70 {
			d := whole(m, s)
			d.words, d.ops = uint16(count), make([]uint32, count)
			try(d)
		}
	}
	if taken < 300 {
		t.Errorf("%d were taken", taken)
	}
}

// P20.4, P20.5: a save that is taken for one module or one base is refused for another.
func TestForeign(t *testing.T) {
	all := modules(t)
	for i, m := range all {
		for j, other := range all {
			d := newDice(uint64(i))
			from := d.someState(m)
			b, delta := checkBack(t, m, from), checkThere(t, m, from, d.near(m, from))
			if i != j {
				wantLoad(t, "another module", other, b, 8, api.ErrForeign)
				wantLoad(t, "another module, and a Delta", other, delta, 8, api.ErrForeign)
				wantApply(t, "another module", other, other.fresh(), delta, 8, api.ErrForeign)
				wantApply(t, "another module, and a whole save", other, other.fresh(), b, 8, api.ErrForeign)
			}
			wantApply(t, "another base", m, turned(from, 77), delta, 20, api.ErrBase)
		}
	}
}

// R1: a save that says that it has very many runs, words, bytes, and does have many, is refused in a moment.
func TestHugeSaves(t *testing.T) {
	m := filler(t)
	for _, d := range []draft{
		{count: 0xFFFFFFFF, rest: make([]byte, 1<<22)},
		{count: 1 << 19, rest: make([]byte, 1<<22)},
		{count: 32768, rest: make([]byte, 1<<22)},
		{count: 32769, rest: make([]byte, 32769*9)},
		{words: 65535, rest: make([]byte, 1<<22)},
		{count: 1, pieces: []piece{{0, 1 << 24, make([]byte, 1<<22)}}},
	} {
		d.opening, d.version, d.module = "SAV!", 1, m.Digest()
		b := d.file()
		wantLoad(t, "a huge save", m, b, 28, api.ErrSaved)
		// Runs that cannot be are not gathered.
		if many := testing.AllocsPerRun(1, func() { save.Load(m.Module, b) }); many > 200_000 {
			t.Errorf("%d runs, it says: %f pieces of memory", d.count, many)
		}
	}
	// As many runs as there may be, and words, are still a state's.
	s := turned(m.fresh(), evens(m.size())...)
	s.Ops = make([]uint32, 65535)
	wantLoad(t, "as much as may be", m, whole(m, s).file(), 28, api.ErrState)
}

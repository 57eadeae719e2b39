package gate_test

import (
	"bytes"
	"slices"
	"sync"
	"testing"

	"playpen/api"
	"playpen/gate"
)

// roomyReply gives a reply with something in the spare room of each list.
func roomyReply(r api.Reply) api.Reply {
	r = clonedReply(r)
	r.Writes = append(r.Writes, write(77, 77), write(78, 78))[:len(r.Writes)]
	for i := range r.Writes {
		b := r.Writes[i].Bytes
		r.Writes[i].Bytes = append(b, 77, 78)[:len(b)]
	}
	return r
}

// unfoldedReply gives a reply with two elements more in each list, out of the spare room.
func unfoldedReply(r api.Reply) api.Reply {
	r = api.Reply{Value: r.Value, Writes: slices.Clone(r.Writes[:len(r.Writes)+2])}
	for i := range r.Writes {
		if b := r.Writes[i].Bytes; i < len(r.Writes)-2 {
			r.Writes[i].Bytes = b[:len(b)+2]
		}
	}
	return r
}

// clonedReply gives the same with lists of its own.
func clonedReply(r api.Reply) api.Reply {
	r.Writes = slices.Clone(r.Writes)
	for i := range r.Writes {
		r.Writes[i].Bytes = slices.Clone(r.Writes[i].Bytes)
	}
	return r
}

// sameReply holds two replies against each other.
func sameReply(a, b api.Reply) bool {
	return a.Value == b.Value && slices.EqualFunc(a.Writes, b.Writes, func(x, y api.Write) bool { return x.At == y.At && bytes.Equal(x.Bytes, y.Bytes) })
}

// spoilReply writes over all lists of a reply.
func spoilReply(r api.Reply) {
	for _, w := range r.Writes {
		spoil(w.Bytes, 77)
	}
	spoil(r.Writes, write(77, 77))
}

// R3: arguments stay as they are, the spare room of their lists too, whatever the calls answer.
func TestArgumentsStay(t *testing.T) {
	d := newDice(7)
	for range 100 {
		list := append(d.someGrants(64), grant(77, 77), grant(78, 78))
		kept := slices.Clone(list)
		g := mustNew(t, list[:len(list)-2]...)
		gate.New(list)
		numbers := []uint32{d.someNumber(), 9, d.someNumber(), 77, 78}
		keptNumbers := slices.Clone(numbers)
		g.Less(numbers[:3]...)
		words := append(scattered(d.upTo(15)), 77, 78)
		keptWords := slices.Clone(words)
		m := memory(t, d.someData())
		for _, start := range []api.Reply{d.someReply(256), tooMany(), tooLong()} {
			r := roomyReply(start)
			keptReply := clonedReply(unfoldedReply(r))
			gate.Fits(r)
			for _, x := range g.Grants() {
				g.Event(1, x.Number, words[:len(words)-2], r)
			}
			g.Apply(m, r)
			if !sameReply(unfoldedReply(r), keptReply) {
				t.Fatalf("the reply became %v", unfoldedReply(r))
			}
		}
		if !slices.Equal(list, kept) || !slices.Equal(numbers, keptNumbers) || !slices.Equal(words, keptWords) {
			t.Fatalf("an argument became %v, %v, %v", list, numbers, words)
		}
	}
}

// R3: what was handed in may be written over: nothing of it is seen in the gate, the memory or an event.
func TestNothingIsKept(t *testing.T) {
	d := newDice(8)
	for range 100 {
		list := append(d.someGrants(63), grant(100, 5))
		want := slices.Clone(list)
		g := mustNew(t, list...)
		spoil(list, grant(77, 7))
		checkGate(t, g, want)

		numbers := []uint32{want[0].Number, 9}
		left := mustLess(t, g, numbers...)
		wantLeft := left.Grants()
		spoil(numbers, 77)
		checkGate(t, left, wantLeft)

		words := append(scattered(5), 77, 78)[:5]
		start := d.someReply(256)
		r := roomyReply(start)
		x, err := g.Event(1, 100, words, r)
		m := memory(t, filled(256))
		g.Apply(m, r)
		spoil(words, 77)
		spoilReply(r)
		wantData := filled(256)
		applyBy(wantData, start)
		if err != api.OK || !slices.Equal(x.Args, scattered(5)) || !bytes.Equal(m.Bytes(), wantData) {
			t.Fatalf("%v, %d", x, err)
		}
	}
}

// R3: what is answered is new memory at each call, its spare room too.
func TestAnswersAreTheirOwn(t *testing.T) {
	g := mustNew(t, row(64)...)
	m := memory(t, filled(256))
	for range 3 {
		one, other := g.Grants(), g.Grants()
		spoil(one, grant(77, 7))
		if !slices.Equal(other, row(64)) {
			t.Fatalf("Grants became %v", other)
		}
		first, _ := g.Words(m, 12, 15)
		second, _ := g.Words(m, 12, 15)
		spoil(first, 77)
		want, _ := wordsBy(filled(256), 12, 15)
		if !slices.Equal(second, want) {
			t.Fatalf("Words became %v", second)
		}
		words := scattered(15)
		x, _ := g.Event(1, 15, words, api.Reply{})
		y, _ := g.Event(1, 15, words, api.Reply{})
		spoil(x.Args, 77)
		if !slices.Equal(y.Args, scattered(15)) || !slices.Equal(words, scattered(15)) {
			t.Fatalf("an event became %v, the words %v", y, words)
		}
		if !bytes.Equal(m.Bytes(), filled(256)) {
			t.Fatal("the memory became another one")
		}
		checkGate(t, g, row(64))
	}
}

// R3: what Less leaves and the gate itself have no part in one another, whichever is asked for what.
func TestLessIsItsOwn(t *testing.T) {
	g := mustNew(t, row(10)...)
	same := mustLess(t, g)
	left := mustLess(t, g, 3, 4)
	further := mustLess(t, left, 5)
	mustLess(t, same, 0, 1, 2)
	spoil(left.Grants(), grant(77, 7))
	checkGate(t, g, row(10))
	checkGate(t, same, row(10))
	checkGate(t, left, slices.Delete(row(10), 3, 5))
	checkGate(t, further, slices.Delete(row(10), 3, 6))
}

// R3: Words and Apply keep nothing of the memory: what happens to it later is not seen in what was told.
func TestToldStays(t *testing.T) {
	g := mustNew(t, grant(7, 4))
	m := memory(t, filled(256))
	words, _ := g.Words(m, 12, 7)
	want, _ := wordsBy(filled(256), 12, 4)
	g.Apply(m, reply(0, write(0, make([]byte, 256)...)))
	if !slices.Equal(words, want) {
		t.Errorf("the words became %v", words)
	}
	if words, _ := g.Words(m, 12, 7); !slices.Equal(words, make([]uint32, 4)) {
		t.Errorf("Words of what was laid down: %v", words)
	}
}

// R4: what one call tells does not hang on others.
func TestCallsAgain(t *testing.T) {
	gates, lists := someGates(t, newDice(9), 30)
	data := filled(512)
	for range 3 {
		for i, g := range gates {
			o := gates[(i+1)%len(gates)]
			o.Less(7)
			o.Grants()
			o.Within(g)
			checkApply(t, o, data, reply(1, write(9, 8, 7)))
			checkGate(t, g, lists[i])
			checkWords(t, g, data, 500, 7)
		}
	}
}

// R4: a gate may be asked by several at a time.
func TestSideBySide(t *testing.T) {
	shared := mustNew(t, row(64)...)
	want, _ := wordsBy(filled(256), 12, 15)
	var all sync.WaitGroup
	for n := range 8 {
		m := memory(t, filled(256))
		all.Go(func() {
			d := newDice(n * 1000)
			for range 100 {
				words, is := shared.Words(m, 12, 15)
				left, err := shared.Less(uint32(n), d.someNumber())
				if !is || !slices.Equal(words, want) || err != api.OK || !left.Within(shared) || shared.Within(left) || !slices.Equal(shared.Grants(), row(64)) {
					t.Error("the shared gate became another one")
				}
				if err := shared.Apply(m, reply(0, write(100, byte(n)))); err != api.OK || m.Load1(100) != uint32(n) {
					t.Errorf("Apply: %d", err)
				}
			}
		})
	}
	all.Wait()
}

// grantsOf gives grants, often such as may not be, by bytes.
func grantsOf(b []byte, number uint32, args int) []api.Grant {
	list := []api.Grant{grant(number, args)}
	for i, x := range b {
		list = append(list, grant(number+uint32(x)*uint32(i+1), int(x%16)))
	}
	return list
}

// mayBeBy tells by the chapter's words whether New makes a gate of grants.
func mayBeBy(list []api.Grant) bool {
	numbers := map[uint32]bool{}
	for _, x := range list {
		if numbers[x.Number] || x.Number > 2147483647 || x.Args < 0 || x.Args > 15 {
			return false
		}
		numbers[x.Number] = true
	}
	return len(list) <= 64
}

// R1: no call panics, at whatever it is given, and each does what its promise says.
func FuzzEveryCall(f *testing.F) {
	f.Add([]byte{1, 2, 3}, uint32(7), 2, uint32(12), uint32(254), []byte{1, 2, 3, 4}, byte(2))
	f.Add([]byte{}, uint32(1<<31-1), 15, uint32(1<<32-8), uint32(1<<32-1), filled(256), byte(16))
	f.Add(filled(63), uint32(0), 0, uint32(0), uint32(0), filled(257), byte(17))
	f.Add(filled(70), uint32(1<<31), -1, uint32(1<<31), uint32(255), []byte{}, byte(0))
	f.Fuzz(func(t *testing.T, grants []byte, number uint32, args int, sp, at uint32, b []byte, count byte) {
		list := grantsOf(grants, number, args)
		g, err := gate.New(list)
		if (err == api.OK) != mayBeBy(list) || (g == nil) != (err != api.OK) || err != api.OK && err != api.ErrGrant {
			t.Fatalf("New(%v): %v, %d", list, g, err)
		}
		r := reply(at)
		for i := range uint32(count) {
			r.Writes = append(r.Writes, write(at+i*3, b...))
		}
		if gate.Fits(r) != fitsBy(r) {
			t.Fatalf("%d writes of %d bytes: %t", count, len(b), gate.Fits(r))
		}
		want, below := numberBy(at)
		if got, is := gate.Number(at); got != want || is != below {
			t.Fatalf("Number(%#x): %d, %t", at, got, is)
		}
		if g == nil {
			if g.Apply(memory(t, filled(256)), r) != api.ErrNil || g.Within(g) || len(g.Grants()) != 0 {
				t.Fatal("a gate that is nil does something")
			}
			return
		}
		checkGate(t, g, list)
		checkApply(t, g, filled(256), r)
		checkWords(t, g, filled(256), sp, number)
		checkWords(t, g, filled(512), sp, at)
		left := mustLess(t, g, number, at, sp)
		checkGate(t, left, slices.DeleteFunc(list, func(x api.Grant) bool { return x.Number == number || x.Number == at || x.Number == sp }))
		if !left.Within(g) || g.Within(left) {
			t.Fatal("what Less leaves is not less")
		}
		words, _ := g.Words(memory(t, filled(256)), sp, number)
		wantErr := api.OK
		if !fitsBy(r) {
			wantErr = api.ErrReply
		}
		if x, err := g.Event(sp, number, words, r); err != wantErr || err == api.OK && !sameEvent(x, api.Event{At: sp, Number: number, Args: words, Value: at}) {
			t.Fatalf("Event: %v, %d", x, err)
		}
	})
}

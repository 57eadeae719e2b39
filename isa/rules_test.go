package isa_test

import (
	"slices"
	"sync"
	"testing"

	"playpen/api"
	"playpen/isa"
)

// R3: arguments stay as they are, the spare room of their lists too.
func TestArgumentsStay(t *testing.T) {
	code := wellFormed(rows(), scattered(20))
	keptCode := slices.Clone(code)
	b, _, _ := isa.Encode(code)
	keptBytes := slices.Clone(b)
	for i := range code {
		isa.Encode(code[:i])
		isa.Places(code[:i])
	}
	for i := range b {
		isa.Decode(b[:i])
		walked(b[:i])
	}
	if !slices.Equal(code, keptCode) || !slices.Equal(b, keptBytes) {
		t.Errorf("arguments became %v, %x", code, b)
	}
}

// R3: what is answered is memory of its own, spare room too.
func TestAnswersAreTheirOwn(t *testing.T) {
	code := wellFormed(rows(), scattered(20))
	kept := slices.Clone(code)
	b, _, _ := isa.Encode(code)
	wantBytes := slices.Clone(b)
	back, _, _ := isa.Decode(b)
	places, _ := isa.Places(code)
	wantPlaces := slices.Clone(places)
	otherBytes, _, _ := isa.Encode(code)
	otherPlaces, _ := isa.Places(code)
	clear(otherBytes[:cap(otherBytes)])
	clear(otherPlaces[:cap(otherPlaces)])
	if !slices.Equal(b, wantBytes) || !slices.Equal(places, wantPlaces) {
		t.Errorf("answers share memory: %x, %v", b, places)
	}
	clear(code)
	clear(b[:cap(b)])
	if !slices.Equal(back, kept) || !slices.Equal(places, wantPlaces) {
		t.Errorf("answers share memory with arguments: %v, %v", back, places)
	}
	clear(back[:cap(back)])
	if again, _, _ := isa.Decode(wantBytes); !slices.Equal(again, kept) {
		t.Errorf("Decode: %v", again)
	}
}

// R4: calls that go on side by side do not see one another.
func TestSideBySide(t *testing.T) {
	table := rows()
	words := scattered(800)
	var all sync.WaitGroup
	for n := range 8 {
		all.Go(func() {
			for i := range 20 {
				code := wellFormed(table, words[n*100:n*100+i])
				b, _, _ := isa.Encode(code)
				if back, _, err := isa.Decode(b); !slices.Equal(back, code) || err != api.OK {
					t.Errorf("Decode: %v, %d", back, err)
					return
				}
			}
		})
	}
	all.Wait()
}

// R1: no call panics, at whatever it is given, and each does what its promise says.
func FuzzEveryCall(f *testing.F) {
	f.Add([]byte("\x03\x08\x00\x08\x02\x01\x00\x00\x04\x08\x00"), byte(12), uint32(15), "gtf")
	f.Add([]byte("\x01\x0c\x0f"), byte(60), uint32(0), "Gtf")
	f.Add([]byte("\x01\x08\x02\x01"), byte(0), uint32(1), "")
	f.Add([]byte("\x01\x00\x08"), byte(35), uint32(256), "copy")
	table, known := rows(), numbers()
	f.Fuzz(func(t *testing.T, b []byte, number byte, arg uint32, word string) {
		checkDecode(t, table, b)
		in := api.Instr{Op: api.Op(number), Arg: arg}
		list, _, _ := spotsBy(table, b)
		checkEncode(t, table, append(codeOf(list), in))
		if err := isa.Check(in); err != checkBy(table, in) {
			t.Fatalf("Check(%v): %d", in, err)
		}
		want, is := known[word]
		if op, ok := isa.ByWord(word); op != want || ok != is {
			t.Fatalf("ByWord(%q): %d, %t", word, op, ok)
		}
		if places, err := isa.Places(codeOf(list)); err != api.OK || len(places) != len(list)+1 {
			t.Fatalf("Places: %v, %d", places, err)
		}
	})
}

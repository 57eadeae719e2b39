package gate_test

import (
	"bytes"
	"slices"
	"testing"

	"playpen/api"
	"playpen/gate"
)

// withinBy tells whether one list of grants has all of another.
func withinBy(inner, outer []api.Grant) bool {
	return !slices.ContainsFunc(inner, func(x api.Grant) bool { return !slices.Contains(outer, x) })
}

// someGates gives gates of grants that meet often: some are what Less left of others, some have other Args.
func someGates(t *testing.T, d *dice, count int) (gates []*gate.Gate, lists [][]api.Grant) {
	t.Helper()
	gates, lists = []*gate.Gate{mustNew(t)}, [][]api.Grant{nil}
	for len(gates) < count {
		list := d.someGrants(20)
		earlier := d.upTo(len(gates) - 1)
		switch d.upTo(2) {
		case 0:
			gates = append(gates, mustNew(t, list...))
		case 1:
			numbers := []uint32{d.someNumber(), d.someNumber(), d.someNumber()}
			gates = append(gates, mustLess(t, gates[earlier], numbers...))
			list = slices.DeleteFunc(slices.Clone(lists[earlier]), func(x api.Grant) bool { return slices.Contains(numbers, x.Number) })
		case 2:
			list = slices.Clone(lists[earlier])
			if len(list) > 0 {
				list[d.upTo(len(list)-1)].Args = d.upTo(15)
			}
			slices.Reverse(list)
			gates = append(gates, mustNew(t, list...))
		}
		lists = append(lists, list)
	}
	return gates, lists
}

// P16.7, P16.9: over scattered gates: Within is just what the grants say, it goes through, and two that are within each other have the same Grants.
func TestWithinGoesThrough(t *testing.T) {
	for round := range 6 {
		gates, lists := someGates(t, newDice(round*1500), 40)
		for i, a := range gates {
			checkGate(t, a, lists[i])
			for j, b := range gates {
				if a.Within(b) != withinBy(lists[i], lists[j]) {
					t.Fatalf("%v within %v: %t", lists[i], lists[j], a.Within(b))
				}
				if a.Within(b) && b.Within(a) != slices.Equal(a.Grants(), b.Grants()) {
					t.Fatalf("%v and %v are within each other: %t", lists[i], lists[j], b.Within(a))
				}
				for k, c := range gates {
					if a.Within(b) && b.Within(c) && !a.Within(c) {
						t.Fatalf("%v, %v, %v: Within does not go through", lists[i], lists[j], lists[k])
					}
				}
			}
		}
	}
}

// P16.7, P16.9: what Less leaves is within the gate, and is what the numbers leave; the rest was theirs.
func TestLessIsWithin(t *testing.T) {
	d := newDice(4)
	for range 500 {
		list := d.someGrants(64)
		g := mustNew(t, list...)
		var numbers []uint32
		for range d.upTo(30) {
			numbers = append(numbers, d.someNumber())
		}
		left := mustLess(t, g, numbers...)
		want := slices.DeleteFunc(slices.Clone(list), func(x api.Grant) bool { return slices.Contains(numbers, x.Number) })
		checkGate(t, left, want)
		checkGate(t, g, list)
		if !left.Within(g) || g.Within(left) != (len(want) == len(list)) {
			t.Fatalf("%v without %v: %t, %t", list, numbers, left.Within(g), g.Within(left))
		}
		slices.Reverse(numbers)
		other := mustLess(t, g, numbers...)
		if !other.Within(left) || !left.Within(other) {
			t.Fatalf("%v without %v in another order", list, numbers)
		}
		half := len(numbers) / 2
		twice := mustLess(t, mustLess(t, g, numbers[:half]...), numbers[half:]...)
		checkGate(t, twice, want)
	}
}

// P16.6, P16.10: Apply changes just the bytes that the writes name; it does the same under every gate.
func TestApplyHangsOnNoGrant(t *testing.T) {
	d := newDice(5)
	gates, _ := someGates(t, d, 12)
	for range 150 {
		data := d.someData()
		r := d.someReply(len(data))
		named := map[int]bool{}
		for _, w := range r.Writes {
			for i := range w.Bytes {
				named[place(data, w.At, i)] = true
			}
		}
		want := slices.Clone(data)
		applyBy(want, r)
		for _, g := range gates {
			checkApply(t, g, data, r)
			m := memory(t, data)
			g.Apply(m, r)
			got := m.Bytes()
			if !bytes.Equal(got, want) || m.Bits() != memory(t, data).Bits() {
				t.Fatalf("%v comes to something else under %v", r, g.Grants())
			}
			for i := range got {
				if got[i] != data[i] && !named[i] {
					t.Fatalf("%v changed the byte at %d", r, i)
				}
			}
		}
	}
}

// P16.4: scattered grants, memories and places.
func TestWordsScattered(t *testing.T) {
	d := newDice(6)
	for range 300 {
		list := d.someGrants(64)
		g := mustNew(t, list...)
		data := d.someData()
		for _, x := range list {
			checkWords(t, g, data, d.someAddress(len(data)), x.Number)
		}
		checkWords(t, g, data, d.someAddress(len(data)), d.someNumber())
	}
}

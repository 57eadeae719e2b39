package link_test

import (
	"slices"
	"testing"

	"playpen/api"
	"playpen/link"
)

// P11.2: the values of labels of all sections, at their beginnings, inside them and at their ends.
func TestMapValues(t *testing.T) {
	labels := func(code, data, zero uint32) []api.Label {
		return []api.Label{
			{Name: "a", In: api.SecCode}, {Name: "b", In: api.SecCode, At: 1}, {Name: "c", In: api.SecCode, At: code},
			{Name: "d", In: api.SecData}, {Name: "e", In: api.SecData, At: 1}, {Name: "f", In: api.SecData, At: data},
			{Name: "g", In: api.SecZero}, {Name: "h", In: api.SecZero, At: 1}, {Name: "i", In: api.SecZero, At: zero},
		}
	}
	objects := []api.Object{
		{Code: nops(5), Data: make([]byte, 7), Zero: 11, Labels: labels(5, 7, 11)},
		{Code: nops(2), Data: make([]byte, 3), Zero: 4},
		{Code: nops(6), Data: make([]byte, 8), Zero: 9, Labels: labels(6, 8, 9)},
		{Code: nops(3), Data: make([]byte, 20), Zero: 30},
	}
	symbols, at, err := link.Map(objects)
	if at != 0 || err != api.OK || len(symbols) != 18 {
		t.Fatalf("%v, %d, %d", symbols, at, err)
	}
	want := []uint32{0, 1, 5, 0, 1, 7, 38, 39, 49, 7, 8, 13, 10, 11, 18, 53, 54, 62}
	for i, symbol := range symbols {
		label := objects[0].Labels[i%9]
		if symbol != (api.Symbol{Object: i / 9 * 2, Name: label.Name, In: label.In, Value: want[i]}) {
			t.Errorf("%d: %v, want %d", i, symbol, want[i])
		}
	}
}

// P11.2: labels of one place stay in their order, and each tells whether it is open.
func TestMapOrder(t *testing.T) {
	objects := []api.Object{{Labels: []api.Label{{Name: "z", In: api.SecCode}, {Name: "a", In: api.SecCode, Open: true}, {Name: "m", In: api.SecCode}, {Name: "b", In: api.SecZero, Open: true}}}, {}, {Labels: []api.Label{{Name: "a", In: api.SecData}}}}
	symbols, at, err := link.Map(objects)
	want := []api.Symbol{{Name: "z", In: api.SecCode}, {Name: "a", In: api.SecCode, Open: true}, {Name: "m", In: api.SecCode}, {Name: "b", In: api.SecZero, Open: true}, {Object: 2, Name: "a", In: api.SecData}}
	if !slices.Equal(symbols, want) || at != 0 || err != api.OK {
		t.Errorf("%v, %d, %d", symbols, at, err)
	}
	if symbols, at, err := link.Map(make([]api.Object, 3)); len(symbols) != 0 || at != 0 || err != api.OK {
		t.Errorf("no labels: %v, %d, %d", symbols, at, err)
	}
}

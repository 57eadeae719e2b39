package link_test

import (
	"slices"
	"strings"
	"testing"

	"playpen/api"
	"playpen/link"
)

// tryLacks wants Lacks to answer names.
func tryLacks(t *testing.T, what string, objects []api.Object, want ...string) {
	t.Helper()
	names, at, err := link.Lacks(objects)
	if !slices.Equal(names, want) || at != 0 || err != api.OK {
		t.Errorf("%s: %q, %d, %d, want %q", what, names, at, err, want)
	}
}

// P11.4: names of fixes, targets and entries, rising, each once.
func TestLacks(t *testing.T) {
	objects := []api.Object{
		{
			Code: []api.Instr{{Op: api.OpConst}, {Op: api.OpConst}}, Data: make([]byte, 8),
			Fixes:   []api.Fix{{In: api.SecCode, Name: "m"}, {In: api.SecCode, At: 1, Name: "b"}, {In: api.SecData, Name: "_"}, {In: api.SecData, At: 4, Name: "m"}},
			Targets: []string{"aa", "m", "Z"},
			Entries: []api.Entry{{Name: "notasked", Label: "a"}, {Name: "e", Label: "\u00e9"}},
		},
		{Targets: []string{"c", "a"}, Entries: []api.Entry{{Name: "x", Label: "m"}}},
	}
	tryLacks(t, "many", objects, "Z", "_", "a", "aa", "b", "c", "m", "\u00e9")
	objects[1].Labels = []api.Label{{Name: "a", In: api.SecZero}, {Name: "m", In: api.SecZero, Open: true}, {Name: "aa", In: api.SecZero}}
	tryLacks(t, "a is the second's own, m all see", objects, "Z", "_", "a", "aa", "b", "c", "\u00e9")
	objects = append(objects, api.Object{Labels: []api.Label{open("a"), open("_"), open("b"), open("c"), open("Z"), open("\u00e9"), open("aa")}})
	tryLacks(t, "nothing", objects)
}

// P11.4: neither a clash, nor too much code, nor a stack that may not be, nor the size is asked here.
func TestLacksAsksLittle(t *testing.T) {
	objects := []api.Object{
		{Labels: []api.Label{open("x")}, Stack: 3, Code: nops(16384), Zero: 65536},
		{Labels: []api.Label{open("x"), open("y"), {Name: "z", In: api.SecCode}}, Code: nops(16384), Zero: 65536, Stack: 1 << 31},
		{Targets: []string{"z", "y", "x", "w"}},
	}
	tryLacks(t, "a clash", objects, "w", "z")
	objects[2].Labels = []api.Label{{Name: "w", In: api.SecData}}
	tryLacks(t, "a target that is no place of the code", objects, "z")
	objects[2].Targets = nil
	tryLacks(t, "nothing", objects)
}

// P11.4: an object that may not be is told, the first one, behind the number of objects.
func TestLacksErrors(t *testing.T) {
	bad := api.Object{Targets: []string{"1"}}
	for at := range 4 {
		objects := slices.Repeat([]api.Object{{Targets: []string{"x"}}}, 4)
		for i := at; i < 4; i++ {
			objects[i] = bad
		}
		if names, gotAt, err := link.Lacks(objects); len(names) != 0 || gotAt != at || err != api.ErrObject {
			t.Errorf("%q, %d, %d, want %d", names, gotAt, err, at)
		}
	}
	if names, at, err := link.Lacks(slices.Repeat([]api.Object{bad}, 65)); len(names) != 0 || at != 0 || err != api.ErrObjects {
		t.Errorf("65: %q, %d, %d", names, at, err)
	}
	tryLacks(t, "64", slices.Repeat([]api.Object{{Targets: []string{"x"}}}, 64), "x")
	tryLacks(t, "an empty one", make([]api.Object, 1))
}

// P11.4: many names, whatever their order.
func TestLacksManyNames(t *testing.T) {
	d := &dice{words: scattered(997)}
	var objects []api.Object
	var all []string
	for range 10 {
		var o api.Object
		for range 100 {
			name := strings.Repeat("q", 1+d.upTo(3)) + string(rune('a'+d.upTo(25))) + string(rune('A'+d.upTo(25)))
			if !slices.Contains(o.Targets, name) {
				o.Targets = append(o.Targets, name)
			}
		}
		all = append(all, o.Targets...)
		objects = append(objects, o)
	}
	slices.Sort(all)
	tryLacks(t, "many", objects, slices.Compact(all)...)
}

package asm_test

import (
	"slices"
	"strings"
	"testing"

	"playpen/api"
	"playpen/asm"
)

// P10.5: blanks, comments, empty lines and sections that it is anyway change nothing.
func TestNothingChanges(t *testing.T) {
	d := &dice{words: scattered(9973)}
	for range 3000 {
		o := someObject(d, "n")
		s := loosened(d, printBy(o))
		if got, f := asm.Assemble(s); !sameObject(got, o) || f != (api.AsmFault{}) {
			t.Fatalf("Assemble(%q): %v, %v, want %v", s, got, f, o)
		}
	}
}

// loosened writes a text that Print gave otherwise, without changing what it says.
func loosened(d *dice, s string) string {
	var b strings.Builder
	section := "code"
	for line := range strings.Lines(s) {
		line = strings.TrimSuffix(line, "\n")
		if line == "code" || line == "data" || line == "zero" {
			section = line
		}
		switch d.upTo(5) {
		case 0:
			b.WriteString("\n \t\r\n# a: frob \"\n")
		case 1:
			b.WriteString(section + "\n")
		case 2:
			line = " \t" + spread(line) + " \r# nop"
		case 3:
			if name, is := strings.CutSuffix(line, ":"); is {
				b.WriteString(name + " : ")
				continue
			}
		case 4:
			line = split(line)
		}
		b.WriteString(line + "\n")
	}
	return b.String()
}

// spread puts blanks between the tokens of a line, but for those of a line with a literal.
func spread(line string) string {
	if strings.Contains(line, "\"") {
		return strings.Replace(line, "\"", "\t\"", 1)
	}
	return strings.NewReplacer(" ", " \t ", "+", " + ", "-", " - ", ":", " :").Replace(line)
}

// split makes of a literal without escapes two, of which one may be empty.
func split(line string) string {
	row, is := strings.CutPrefix(line, "\tbytes \"")
	if !is || strings.Contains(row, "\\") {
		return line
	}
	row = strings.TrimSuffix(row, "\"")
	return "bytes \"" + row[:len(row)/2] + "\"\n\tbytes \"" + row[len(row)/2:] + "\""
}

// P10.5: bytes that are split at every place.
func TestSplitBytes(t *testing.T) {
	whole := mustAssemble(t, "data\nbytes \"ab\\n\\xff\\u00e9\\\"\"\nend:")
	pieces := []string{"a", "b", "\\n", "\\xff", "\\u00e9", "\\\""}
	for at := range len(pieces) + 1 {
		s := "data\nbytes \"" + strings.Join(pieces[:at], "") + "\"\nbytes \"" + strings.Join(pieces[at:], "") + "\"\nend:"
		if o := mustAssemble(t, s); !sameObject(o, whole) {
			t.Errorf("split at %d: %v", at, o)
		}
	}
}

// joined gives the object whose sections are the one's and then the other's.
func joined(x, y api.Object) api.Object {
	bases := map[api.Section]uint32{api.SecCode: uint32(len(x.Code)), api.SecData: uint32(len(x.Data)), api.SecZero: x.Zero}
	o := api.Object{
		Code: slices.Concat(x.Code, y.Code), Data: slices.Concat(x.Data, y.Data), Zero: x.Zero + y.Zero, Stack: x.Stack + y.Stack,
		Targets: slices.Concat(x.Targets, y.Targets), Entries: slices.Concat(x.Entries, y.Entries),
	}
	for _, in := range []api.Section{api.SecCode, api.SecData, api.SecZero} {
		for _, l := range x.Labels {
			if l.In == in {
				o.Labels = append(o.Labels, l)
			}
		}
		for _, l := range y.Labels {
			if l.In == in {
				l.At += bases[in]
				o.Labels = append(o.Labels, l)
			}
		}
		for _, f := range x.Fixes {
			if f.In == in {
				o.Fixes = append(o.Fixes, f)
			}
		}
		for _, f := range y.Fixes {
			if f.In == in {
				f.At += bases[in]
				o.Fixes = append(o.Fixes, f)
			}
		}
	}
	return o
}

// P10.6: two texts, one behind the other.
func TestTwoTexts(t *testing.T) {
	d := &dice{words: scattered(9973)}
	for i := range 3000 {
		x, y := someObject(d, "n"), someObject(d, "m")
		if i%2 == 0 {
			x.Stack = 0
		} else {
			y.Stack = 0
		}
		s := loosened(d, printBy(x)) + "\ncode\n" + loosened(d, printBy(y))
		if o, f := asm.Assemble(s); !sameObject(o, joined(x, y)) || f != (api.AsmFault{}) {
			t.Fatalf("Assemble(%q): %v, %v, want %v", s, o, f, joined(x, y))
		}
	}
}

// P10.6: a text that ends within another section goes on in its own, and a name may mean the other text's label.
func TestTwoTextsChosen(t *testing.T) {
	one, other := "open a\na: nop\ndata\nd: word b\nzero\nspace 2", "b: const a\ndata\nword d\nzero\nz: space 1"
	o := mustAssemble(t, one+"\ncode\n"+other)
	want := joined(mustAssemble(t, one), mustAssemble(t, other))
	if !sameObject(o, want) || o.Labels[1] != (api.Label{Name: "b", In: api.SecCode, At: 1}) || o.Fixes[2] != (api.Fix{In: api.SecData, At: 4, Name: "d"}) || o.Labels[3].At != 2 {
		t.Errorf("%v, want %v", o, want)
	}
}

package asm_test

import (
	"slices"
	"strconv"
	"strings"
	"testing"

	"playpen/api"
	"playpen/asm"
	"playpen/isa"
	"playpen/text"
)

// isName tells whether a text is a name, by chapter 1.
func isName(s string) bool {
	tokens, _, err := text.Tokens(s)
	return err == api.OK && len(tokens) == 1 && tokens[0] == (api.Token{Kind: api.TokName, Text: s})
}

// checkBy tells whether an object may be, by the document's words.
func checkBy(o api.Object) bool {
	if len(o.Code) > 16384 || len(o.Data) > 65536 || o.Zero > 65536 || len(o.Labels) > 4096 || len(o.Fixes) > 16384 || len(o.Entries) > 64 {
		return false
	}
	for _, in := range o.Code {
		if isa.Check(in) != api.OK {
			return false
		}
	}
	lengths := map[api.Section]int{api.SecCode: len(o.Code), api.SecData: len(o.Data), api.SecZero: int(o.Zero)}
	var all []string
	for i, l := range o.Labels {
		length, is := lengths[l.In]
		if !isName(l.Name) || slices.Contains(all, l.Name) || !is || uint64(l.At) > uint64(length) {
			return false
		}
		for _, later := range o.Labels[i+1:] {
			if later.In < l.In || later.In == l.In && later.At < l.At {
				return false
			}
		}
		all = append(all, l.Name)
	}
	for i, f := range o.Fixes {
		if !isName(f.Name) || !fixBy(o, f, o.Fixes[i+1:]) {
			return false
		}
	}
	for i, target := range o.Targets {
		if !isName(target) || slices.Contains(o.Targets[:i], target) {
			return false
		}
	}
	for i, entry := range o.Entries {
		if len(entry.Name) < 1 || len(entry.Name) > 32 || !isName(entry.Label) || slices.ContainsFunc(o.Entries[:i], func(e api.Entry) bool { return e.Name == entry.Name }) {
			return false
		}
	}
	return true
}

// fixBy tells whether a fix may be, with those behind it and the labels.
func fixBy(o api.Object, f api.Fix, behind []api.Fix) bool {
	switch f.In {
	case api.SecCode:
		if uint64(f.At) >= uint64(len(o.Code)) || o.Code[f.At].Arg != 0 {
			return false
		}
		if info, _ := isa.Info(o.Code[f.At].Op); info.Width == 0 {
			return false
		}
	case api.SecData:
		for at := uint64(f.At); at < uint64(f.At)+4; at++ {
			if at >= uint64(len(o.Data)) || o.Data[at] != 0 {
				return false
			}
			if at > uint64(f.At) && slices.ContainsFunc(o.Labels, func(l api.Label) bool { return l.In == api.SecData && uint64(l.At) == at }) {
				return false
			}
		}
	default:
		return false
	}
	for _, later := range behind {
		if later.In < f.In || later.In == f.In && (later.At <= f.At || f.In == api.SecData && later.At-f.At < 4) {
			return false
		}
	}
	return true
}

func tryCheck(t *testing.T, what string, o api.Object, want api.Errno) {
	t.Helper()
	if err := asm.Check(o); err != want || checkBy(o) != (want == api.OK) {
		t.Errorf("%s: Check: %d, want %d", what, err, want)
	}
	s, err := asm.Print(o)
	if err != want || (err == api.OK) != (s != "") {
		t.Errorf("%s: Print: %q, %d, want %d", what, brief(s), err, want)
	}
}

// fullObject has something of everything: code of 4, data of 14, noughts of 5.
func fullObject() api.Object {
	return api.Object{
		Code: []api.Instr{{Op: api.OpEnter, Arg: 8}, {Op: api.OpConst}, {Op: api.OpGoto}, {Op: api.OpPop}},
		Data: []byte{1, 2, 0, 0, 0, 0, 0, 0, 0, 0, 3, 0, 0, 0},
		Zero: 5, Stack: 66,
		Labels: []api.Label{
			{Name: "a", In: api.SecCode}, {Name: "b", In: api.SecCode, At: 4, Open: true},
			{Name: "d", In: api.SecData, At: 2}, {Name: "c", In: api.SecData, At: 2}, {Name: "e", In: api.SecData, At: 14},
			{Name: "f", In: api.SecZero, At: 5, Open: true},
		},
		Fixes: []api.Fix{
			{In: api.SecCode, At: 1, Name: "a", Add: 1<<32 - 1}, {In: api.SecCode, At: 2, Name: "nowhere"},
			{In: api.SecData, At: 2, Name: "f", Add: 1}, {In: api.SecData, At: 6, Name: "a"},
		},
		Targets: []string{"b", "nowhere"},
		Entries: []api.Entry{{Name: "main", Label: "a"}, {Name: "\x00", Label: "nowhere"}},
	}
}

// P10.2: what may be, at its edges.
func TestCheckTakes(t *testing.T) {
	for _, c := range []struct {
		what  string
		shift func(o *api.Object)
	}{
		{"as it is", func(o *api.Object) {}},
		{"nothing", func(o *api.Object) { *o = api.Object{} }},
		{"any stack", func(o *api.Object) { o.Stack = 1<<32 - 1 }},
		{"labels of one place in another order", func(o *api.Object) { o.Labels[2], o.Labels[3] = o.Labels[3], o.Labels[2] }},
		{"a label at the data's beginning", func(o *api.Object) { o.Labels[2].At = 0 }},
		{"labels right behind fixes", func(o *api.Object) { o.Labels[2].At, o.Labels[3].At = 6, 10 }},
		{"a label of another section within a fix", func(o *api.Object) { o.Labels[5].At = 3; o.Labels[1].At = 3 }},
		{"one entry's name of 32 bytes", func(o *api.Object) { o.Entries[0].Name = strings.Repeat("\xff", 32) }},
		{"a fix of the data up to its end", func(o *api.Object) { o.Data = o.Data[:10]; o.Labels[4].At = 10 }},
		{"a name for many things", func(o *api.Object) { o.Targets[0], o.Entries[0] = "a", api.Entry{Name: "a", Label: "a"} }},
		{"long names", func(o *api.Object) {
			o.Labels[0].Name, o.Targets[0] = strings.Repeat("x", 5000), strings.Repeat("\u00e9", 5000)
		}},
		{"words of statements", func(o *api.Object) { o.Labels[0].Name, o.Targets[0], o.Fixes[0].Name = "code", "nop", "entry" }},
	} {
		o := fullObject()
		c.shift(&o)
		tryCheck(t, c.what, o, api.OK)
	}
}

// P10.2: every single thing that may not be.
func TestCheckRefuses(t *testing.T) {
	for _, c := range []struct {
		what  string
		spoil func(o *api.Object)
	}{
		{"no operation", func(o *api.Object) { o.Code[3].Op = 0 }},
		{"no operation", func(o *api.Object) { o.Code[0].Op = 60 }},
		{"an operand too great", func(o *api.Object) { o.Code[0].Arg = 65536 }},
		{"an operand of what has none", func(o *api.Object) { o.Code[3].Arg = 1 }},
		{"a label twice", func(o *api.Object) { o.Labels[1].Name = "a" }},
		{"a label twice, in two sections", func(o *api.Object) { o.Labels[5].Name = "a" }},
		{"a label in no section", func(o *api.Object) { o.Labels[0].In = 0 }},
		{"a label in no section", func(o *api.Object) { o.Labels[5].In = 4 }},
		{"a label above the code", func(o *api.Object) { o.Labels[1].At = 5 }},
		{"a label above the data", func(o *api.Object) { o.Labels[4].At = 15 }},
		{"a label above the noughts", func(o *api.Object) { o.Labels[5].At = 6 }},
		{"a label far above", func(o *api.Object) { o.Labels[1].At = 1<<32 - 1 }},
		{"a label far above", func(o *api.Object) { o.Labels[4].At = 1 << 31 }},
		{"a label far above", func(o *api.Object) { o.Labels[5].At = 1<<32 - 1 }},
		{"labels that fall", func(o *api.Object) { o.Labels[0].At, o.Labels[1].At = 4, 3 }},
		{"labels that fall", func(o *api.Object) { o.Labels[2].At = 14; o.Labels[3].At = 2 }},
		{"data ahead of code", func(o *api.Object) { o.Labels[1], o.Labels[2] = o.Labels[2], o.Labels[1] }},
		{"noughts ahead of data", func(o *api.Object) { o.Labels[4], o.Labels[5] = o.Labels[5], o.Labels[4] }},
		{"a label within a fix", func(o *api.Object) { o.Labels[3].At = 3 }},
		{"a label within a fix", func(o *api.Object) { o.Labels[3].At = 4 }},
		{"a label within a fix", func(o *api.Object) { o.Labels[3].At = 5 }},
		{"a label within the last fix", func(o *api.Object) { o.Labels[3].At = 9 }},
		{"a fix of no section", func(o *api.Object) { o.Fixes[0].In = 0 }},
		{"a fix of the noughts", func(o *api.Object) { o.Fixes[3].In, o.Fixes[3].At = api.SecZero, 0 }},
		{"a fix of an unknown section", func(o *api.Object) { o.Fixes[3].In = 5 }},
		{"a fix above the code", func(o *api.Object) { o.Fixes[1].At = 4 }},
		{"a fix far above the code", func(o *api.Object) { o.Fixes[1].At = 1<<32 - 1 }},
		{"a fix of what has no operand", func(o *api.Object) { o.Fixes[1].At = 3 }},
		{"a fix of an operand that is not 0", func(o *api.Object) { o.Fixes[0].At = 0 }},
		{"a fix of an operand that is not 0", func(o *api.Object) { o.Code[2].Arg = 1 }},
		{"two fixes of one instruction", func(o *api.Object) { o.Fixes[1].At = 1 }},
		{"fixes of the code that fall", func(o *api.Object) { o.Fixes[0], o.Fixes[1] = o.Fixes[1], o.Fixes[0] }},
		{"fixes of the data ahead of the code", func(o *api.Object) { o.Fixes[1], o.Fixes[2] = o.Fixes[2], o.Fixes[1] }},
		{"fixes of the data that fall", func(o *api.Object) { o.Fixes[2], o.Fixes[3] = o.Fixes[3], o.Fixes[2] }},
		{"fixes of the data too near", func(o *api.Object) { o.Fixes[3].At = 5 }},
		{"fixes of the data at one place", func(o *api.Object) { o.Fixes[3].At = 2 }},
		{"a fix over a byte that is not 0", func(o *api.Object) { o.Data[2] = 1 }},
		{"a fix over a byte that is not 0", func(o *api.Object) { o.Data[3] = 1 }},
		{"a fix over a byte that is not 0", func(o *api.Object) { o.Data[9] = 255 }},
		{"a fix over a byte that is not 0", func(o *api.Object) { o.Fixes[2].At = 1 }},
		{"a fix beyond the data", func(o *api.Object) { o.Fixes[3].At = 11 }},
		{"a fix beyond the data", func(o *api.Object) { o.Data = o.Data[:9]; o.Labels[4].At = 9 }},
		{"a fix at the data's end", func(o *api.Object) { o.Fixes[3].At = 14 }},
		{"a fix far beyond the data", func(o *api.Object) { o.Fixes[3].At = 1<<32 - 2 }},
		{"a target twice", func(o *api.Object) { o.Targets[1] = "b" }},
		{"an entry twice", func(o *api.Object) { o.Entries[1].Name = "main" }},
		{"an entry without a name", func(o *api.Object) { o.Entries[1].Name = "" }},
		{"an entry's name of 33 bytes", func(o *api.Object) { o.Entries[0].Name = strings.Repeat("x", 33) }},
	} {
		o := fullObject()
		c.spoil(&o)
		tryCheck(t, c.what, o, api.ErrObject)
	}
}

// P10.2: what is a name, wherever one stands.
func TestCheckNames(t *testing.T) {
	for _, c := range []struct {
		name string
		is   bool
	}{
		{"x", true}, {"_", true}, {"x1", true}, {"\u00e9", true}, {"\u00d7", true}, {"A_b9", true},
		{"", false}, {"1", false}, {"1x", false}, {" x", false}, {"x ", false}, {"x y", false}, {"x\n", false}, {"x#", false}, {"#", false}, {"x:", false}, {"+", false}, {"x+1", false}, {"\"x\"", false}, {"'x'", false}, {"\xff", false}, {"x\xff", false}, {"\u00a9", false}, {"x\x00", false}, {"\n", false},
	} {
		want := api.OK
		if !c.is {
			want = api.ErrObject
		}
		for i, lay := range []func(o *api.Object){
			func(o *api.Object) { o.Labels[3].Name = c.name },
			func(o *api.Object) { o.Fixes[0].Name = c.name },
			func(o *api.Object) { o.Fixes[3].Name = c.name },
			func(o *api.Object) { o.Targets[1] = c.name },
			func(o *api.Object) { o.Entries[1].Label = c.name },
		} {
			o := fullObject()
			lay(&o)
			tryCheck(t, strconv.Quote(c.name)+" in place "+strconv.Itoa(i), o, want)
		}
	}
	o := fullObject()
	o.Targets[1] = strings.Repeat("x", 1<<19)
	if err := asm.Check(o); err != api.OK {
		t.Errorf("a name of 2^19 bytes: %d", err)
	}
	o.Targets[1] += "x"
	if err := asm.Check(o); err != api.ErrObject {
		t.Errorf("a name of 2^19 + 1 bytes: %d", err)
	}
}

// P10.2: each limit, and one more.
func TestCheckLimits(t *testing.T) {
	try := func(what string, o api.Object, want api.Errno) {
		t.Helper()
		if err := asm.Check(o); err != want {
			t.Errorf("%s: %d, want %d", what, err, want)
		}
		if _, err := asm.Print(o); want != api.OK && err != want {
			t.Errorf("%s: Print: %d", what, err)
		}
	}
	for more := range 2 {
		want := []api.Errno{api.OK, api.ErrObject}[more]
		code := slices.Repeat([]api.Instr{{Op: api.OpConst}}, 16384+more)
		try("code", api.Object{Code: code}, want)
		try("data", api.Object{Data: make([]byte, 65536+more)}, want)
		try("noughts", api.Object{Zero: uint32(65536 + more)}, want)
		var labels []api.Label
		for i := range 4096 + more {
			labels = append(labels, api.Label{Name: "x" + strconv.Itoa(i), In: api.SecZero})
		}
		try("labels", api.Object{Labels: labels}, want)
		var fixes []api.Fix
		for i := range 16380 {
			fixes = append(fixes, api.Fix{In: api.SecCode, At: uint32(i), Name: "x"})
		}
		for i := range 4 + more {
			fixes = append(fixes, api.Fix{In: api.SecData, At: uint32(4 * i), Name: "x"})
		}
		try("fixes", api.Object{Code: code[:16384], Data: make([]byte, 100), Fixes: fixes}, want)
		var entries []api.Entry
		for i := range 64 + more {
			entries = append(entries, api.Entry{Name: strconv.Itoa(i), Label: "x"})
		}
		try("entries", api.Object{Entries: entries}, want)
	}
	try("far more noughts", api.Object{Zero: 1<<32 - 1}, api.ErrObject)
}

// P10.2: objects that are spoiled here and there, against the document's words.
func TestCheckScattered(t *testing.T) {
	d := &dice{words: scattered(9973)}
	taken, refused := 0, 0
	for range 20000 {
		o := someObject(d, "n")
		if err := asm.Check(o); err != api.OK || !checkBy(o) {
			t.Fatalf("Check(%v): %d", o, err)
		}
		for range 1 + d.upTo(1) {
			spoil(d, &o)
		}
		err := asm.Check(o)
		if (err == api.OK) != checkBy(o) || err != api.OK && err != api.ErrObject {
			t.Fatalf("Check(%v): %d", o, err)
		}
		if err == api.OK {
			taken++
		} else {
			refused++
		}
	}
	if taken < 2000 || refused < 2000 {
		t.Errorf("%d objects were taken, %d refused: too few of one kind", taken, refused)
	}
}

// spoil changes one number or name of an object a little.
func spoil(d *dice, o *api.Object) {
	shift := func(x uint32) uint32 { return x + uint32(d.upTo(4)) - 2 }
	switch kind := d.upTo(6); {
	case kind == 0 && len(o.Code) > 0:
		i := d.upTo(len(o.Code) - 1)
		o.Code[i].Arg = shift(o.Code[i].Arg)
	case kind == 1 && len(o.Data) > 0:
		o.Data[d.upTo(len(o.Data)-1)] = byte(d.upTo(2))
	case kind == 2 && len(o.Labels) > 0:
		i, j := d.upTo(len(o.Labels)-1), d.upTo(len(o.Labels)-1)
		o.Labels[i].At = shift(o.Labels[i].At)
		if d.upTo(1) == 0 {
			o.Labels[i].In, o.Labels[j].In = o.Labels[j].In, o.Labels[i].In
		}
	case kind == 3 && len(o.Fixes) > 0:
		i, j := d.upTo(len(o.Fixes)-1), d.upTo(len(o.Fixes)-1)
		o.Fixes[i].At = shift(o.Fixes[i].At)
		if d.upTo(1) == 0 {
			o.Fixes[i], o.Fixes[j] = o.Fixes[j], o.Fixes[i]
		}
	case kind == 4 && len(o.Data) > 0:
		o.Data = o.Data[:d.upTo(len(o.Data)-1)]
	case kind == 5:
		o.Zero = shift(o.Zero)
	case len(o.Targets) > 0:
		o.Targets = append(o.Targets, o.Targets[0])
	}
}

// P10.2: every object that Assemble answers may be.
func TestCheckOfAssembled(t *testing.T) {
	d := &dice{words: scattered(9973)}
	for range 3000 {
		s := printBy(someObject(d, "n"))
		if err := asm.Check(mustAssemble(t, s)); err != api.OK {
			t.Fatalf("Check of Assemble(%q): %d", s, err)
		}
	}
	if err := asm.Check(mustAssemble(t, sample)); err != api.OK {
		t.Errorf("%d", err)
	}
}

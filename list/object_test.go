package list_test

import (
	"slices"
	"testing"

	"playpen/api"
	"playpen/image"
	"playpen/list"
)

// The object of the image of the chapter's example 2.
func TestExampleObject(t *testing.T) {
	want := api.Object{
		Code: []api.Instr{
			{Op: api.OpEnter, Arg: 8}, {Op: api.OpConst, Arg: 0}, {Op: api.OpConst, Arg: 1}, {Op: api.OpEq, Arg: 0},
			{Op: api.OpGoto, Arg: 0}, {Op: api.OpConst, Arg: 7}, {Op: api.OpLeave, Arg: 8},
		},
		Zero:    4,
		Stack:   64,
		Labels:  []api.Label{{Name: "at0", In: api.SecCode, At: 0}, {Name: "at1", In: api.SecCode, At: 1}, {Name: "at5", In: api.SecCode, At: 5}},
		Fixes:   []api.Fix{{In: api.SecCode, At: 3, Name: "at5"}, {In: api.SecCode, At: 4, Name: "at1"}},
		Targets: []string{"at5"},
		Entries: []api.Entry{{Name: "main", Label: "at0"}},
	}
	if o := mustObject(t, "example 2", sample()); !sameObject(o, want) {
		t.Errorf("%v, want %v", o, want)
	}
}

// The chapter's example 3, and its neighbours.
func TestExampleBeyond(t *testing.T) {
	for _, c := range []struct {
		what  string
		jumps []uint32
		at    uint32
		want  api.Errno
	}{
		{"jumps 5, 5", []uint32{5, 5}, 0, api.ErrBeyond},
		{"jumps 5, 4", []uint32{5, 4}, 0, api.ErrBeyond},
		{"jumps 1, 5, 3, 6", []uint32{1, 5, 3, 6}, 0, api.ErrBeyond},
		{"jumps 0, 0", []uint32{0, 0}, 0, api.ErrBeyond},
		{"jumps 4, 5", []uint32{4, 5}, 0, api.OK},
		{"no jumps", nil, 0, api.OK},
		{"every jump", upTo(8), 7, api.OK},
		{"jump 7", []uint32{7}, 0, api.OK},
		{"jump 8", []uint32{8}, 0, api.ErrBeyond},
		{"jumps 5, 8", []uint32{5, 8}, 0, api.ErrBeyond},
		{"jump 2^31", []uint32{1 << 31}, 0, api.ErrBeyond},
		{"jump 2^32 - 1", []uint32{1<<32 - 1}, 0, api.ErrBeyond},
		{"the name's At 7", []uint32{5}, 7, api.OK},
		{"the name's At 8", []uint32{5}, 8, api.ErrBeyond},
		{"the name's At 2^31", nil, 1 << 31, api.ErrBeyond},
		{"the name's At 2^32 - 1", nil, 1<<32 - 1, api.ErrBeyond},
	} {
		im := sample()
		im.Jumps, im.Names[0].At = c.jumps, c.at
		if c.want != api.OK {
			tryImage(t, c.what, im, c.want)
		}
		if err := checkImage(t, im); err != c.want {
			t.Errorf("%s: %d, want %d", c.what, err, c.want)
		}
	}
	im := sample()
	im.Jumps = []uint32{7}
	if o := mustObject(t, "jump 7", im); !slices.Contains(o.Labels, api.Label{Name: "at7", In: api.SecCode, At: 7}) {
		t.Errorf("jump 7: %v", o.Labels)
	}
}

// P12.2: the last of several names is looked at too.
func TestNamesBeyond(t *testing.T) {
	im := sample()
	im.Names = []api.Export{{Name: "a", At: 7}, {Name: "b", At: 0}, {Name: "c", At: 8}}
	tryImage(t, "the third name", im, api.ErrBeyond)
	im.Names[2].At = 7
	if err := checkImage(t, im); err != api.OK {
		t.Errorf("At 7: %d", err)
	}
}

// P12.2: without code index 0 is its end, and a label may stand there.
func TestNoCode(t *testing.T) {
	im := api.Image{Stack: 64}
	if o := mustObject(t, "nothing", im); !sameObject(o, api.Object{Stack: 64}) {
		t.Errorf("nothing: %v", o)
	}
	im.Jumps, im.Names = []uint32{0}, []api.Export{{Name: "x", At: 0}}
	want := api.Object{
		Stack:   64,
		Labels:  []api.Label{{Name: "at0", In: api.SecCode}},
		Targets: []string{"at0"},
		Entries: []api.Entry{{Name: "x", Label: "at0"}},
	}
	if o := mustObject(t, "no code", im); !sameObject(o, want) {
		t.Errorf("no code: %v", o)
	}
	im.Jumps[0] = 1
	tryImage(t, "jump 1", im, api.ErrBeyond)
	im.Jumps[0], im.Names[0].At = 0, 1
	tryImage(t, "name at 1", im, api.ErrBeyond)
}

// P12.2: a static target at the number of instructions is a place, one beyond it is none and stays a number.
func TestStaticTargets(t *testing.T) {
	for op := api.OpNop; op <= api.LastOp; op++ {
		isStatic := op == api.OpGoto || op >= api.OpEq && op <= api.OpGef
		for _, arg := range []uint32{0, 1, 2, 3, 4, 16383} {
			if arg > shapeOf(wordOf(op)).most {
				continue
			}
			im := api.Image{Code: []api.Instr{{Op: api.OpNop}, {Op: op, Arg: arg}, {Op: api.OpNop}}, Stack: 64}
			o := mustObject(t, "static target", im)
			want := api.Object{Code: im.Code, Stack: 64}
			if isStatic && arg <= 3 {
				name := "at" + string(rune('0'+arg))
				want.Labels = []api.Label{{Name: name, In: api.SecCode, At: arg}}
				want.Fixes = []api.Fix{{In: api.SecCode, At: 1, Name: name}}
				want.Code = []api.Instr{{Op: api.OpNop}, {Op: op}, {Op: api.OpNop}}
			}
			if !sameObject(o, want) {
				t.Errorf("%s %d: %v, want %v", wordOf(op), arg, o, want)
			}
			checkImage(t, im)
		}
	}
}

// P12.2: what looks like a place's number and is no static target stays.
func TestOtherOperandsStay(t *testing.T) {
	im := sample()
	im.Code = append(im.Code, api.Instr{Op: api.OpConst, Arg: 5}, api.Instr{Op: api.OpLocal, Arg: 5}, api.Instr{Op: api.OpEnter, Arg: 5}, api.Instr{Op: api.OpArg, Arg: 5}, api.Instr{Op: api.OpCopy, Arg: 5})
	o := mustObject(t, "operands", im)
	if !slices.Equal(o.Code[7:], im.Code[7:]) || len(o.Fixes) != 2 || len(o.Labels) != 3 {
		t.Errorf("%v", o)
	}
}

// P12.2: a place that is one in several ways has one label; a goto at its own index and branches to one place are told each.
func TestPlacesOnce(t *testing.T) {
	im := api.Image{
		Code:  []api.Instr{{Op: api.OpGoto, Arg: 2}, {Op: api.OpEq, Arg: 2}, {Op: api.OpGoto, Arg: 2}},
		Jumps: []uint32{2},
		Stack: 64,
		Names: []api.Export{{Name: "a", At: 2}, {Name: "b", At: 2}},
	}
	want := api.Object{
		Code:    []api.Instr{{Op: api.OpGoto}, {Op: api.OpEq}, {Op: api.OpGoto}},
		Stack:   64,
		Labels:  []api.Label{{Name: "at2", In: api.SecCode, At: 2}},
		Fixes:   []api.Fix{{In: api.SecCode, At: 0, Name: "at2"}, {In: api.SecCode, At: 1, Name: "at2"}, {In: api.SecCode, At: 2, Name: "at2"}},
		Targets: []string{"at2"},
		Entries: []api.Entry{{Name: "a", Label: "at2"}, {Name: "b", Label: "at2"}},
	}
	if o := mustObject(t, "once", im); !sameObject(o, want) {
		t.Errorf("%v, want %v", o, want)
	}
	checkImage(t, im)
}

// P12.2: labels rise by number, not by name, wherever places come from.
func TestPlacesRise(t *testing.T) {
	im := api.Image{Code: nops(120), Jumps: []uint32{9, 100}, Stack: 64, Names: []api.Export{{Name: "a", At: 120}, {Name: "b", At: 2}}}
	im.Code[0], im.Code[1], im.Code[2] = api.Instr{Op: api.OpGoto, Arg: 99}, api.Instr{Op: api.OpGoto, Arg: 10}, api.Instr{Op: api.OpNe, Arg: 0}
	var places []uint32
	for _, label := range mustObject(t, "rising", im).Labels {
		places = append(places, label.At)
	}
	if !slices.Equal(places, []uint32{0, 2, 9, 10, 99, 100, 120}) {
		t.Errorf("%v", places)
	}
	checkImage(t, im)
}

// P12.2: 4096 places may be, one more not, wherever they come from.
func TestMostPlaces(t *testing.T) {
	jumps := api.Image{Code: nops(5000), Jumps: upTo(4096), Stack: 64}
	gotos := api.Image{Code: nops(5000), Stack: 64}
	for i := range 4096 {
		gotos.Code[i] = api.Instr{Op: []api.Op{api.OpGoto, api.OpEq, api.OpGef}[i%3], Arg: uint32(i)}
	}
	mixed := api.Image{Code: nops(5000), Jumps: upTo(4000), Stack: 64, Names: []api.Export{{Name: "a", At: 4095}, {Name: "b", At: 0}, {Name: "c", At: 4095}}}
	for i := range 3000 {
		mixed.Code[i] = api.Instr{Op: api.OpGoto, Arg: uint32(1095 + i)}
	}
	for what, im := range map[string]api.Image{"jumps": jumps, "static targets": gotos, "mixed": mixed} {
		if o := mustObject(t, what, im); len(o.Labels) != 4096 {
			t.Errorf("%s: %d labels", what, len(o.Labels))
		}
		checkImage(t, im)
		more := cloned(im)
		more.Jumps = append(more.Jumps, 5000)
		tryImage(t, what+", a jump more", more, api.ErrPlaces)
		more = cloned(im)
		more.Names = append(more.Names, api.Export{Name: "d", At: 5000})
		tryImage(t, what+", a name more", more, api.ErrPlaces)
		more = cloned(im)
		more.Code[4999] = api.Instr{Op: api.OpLtu, Arg: 5000}
		tryImage(t, what+", a static target more", more, api.ErrPlaces)
		more.Code[4999].Arg = 5001
		if err := checkImage(t, more); err != api.OK {
			t.Errorf("%s, a static target beyond: %d", what, err)
		}
	}
}

// P12.2: image's Check comes first, each of its errors; then ErrBeyond, then ErrPlaces.
func TestOrderOfErrors(t *testing.T) {
	im := api.Image{Code: nops(5000), Jumps: upTo(5001), Stack: 64, Names: []api.Export{{Name: "x", At: 0}}}
	tryImage(t, "too many places", im, api.ErrPlaces)
	im.Names[0].At = 5001
	tryImage(t, "a name beyond", im, api.ErrBeyond)
	im.Jumps[5000], im.Names[0].At = 5001, 0
	tryImage(t, "a jump beyond", im, api.ErrBeyond)
	im.Jumps[5000] = 0
	tryImage(t, "a jump that does not rise", im, api.ErrBeyond)
	for _, c := range []struct {
		what  string
		spoil func(im *api.Image)
		want  api.Errno
	}{
		{"two names of one kind", func(im *api.Image) { im.Names = append(im.Names, im.Names[0]) }, api.ErrNames},
		{"a name of nothing", func(im *api.Image) { im.Names[0].Name = "" }, api.ErrNames},
		{"Stack 66", func(im *api.Image) { im.Stack = 66 }, api.ErrSize},
		{"too many noughts", func(im *api.Image) { im.Zero = 65536 }, api.ErrSize},
		{"too many jumps", func(im *api.Image) { im.Jumps = make([]uint32, 16385) }, api.ErrTable},
		{"an operand", func(im *api.Image) { im.Code[4999] = api.Instr{Op: api.OpGoto, Arg: 16384} }, api.ErrOperand},
		{"an operation", func(im *api.Image) { im.Code[1] = api.Instr{Op: 60} }, api.ErrOp},
		{"too much code", func(im *api.Image) { im.Code = nops(16385) }, api.ErrInstrs},
	} {
		c.spoil(&im)
		tryImage(t, c.what, im, c.want)
		if err := image.Check(im); err != c.want {
			t.Errorf("%s: image's Check: %d, want %d", c.what, err, c.want)
		}
	}
}

// P12.2: code of the greatest length: its end is a place that no static target can be.
func TestFullCode(t *testing.T) {
	im := api.Image{Code: slices.Repeat([]api.Instr{{Op: api.OpGoto, Arg: 16383}}, 16384), Jumps: []uint32{16384}, Stack: 64}
	o := mustObject(t, "full code", im)
	if len(o.Fixes) != 16384 || len(o.Labels) != 2 || o.Labels[1].Name != "at16384" {
		t.Errorf("%d fixes, labels %v", len(o.Fixes), o.Labels)
	}
	checkImage(t, im)
	im.Jumps[0] = 16385
	tryImage(t, "beyond full code", im, api.ErrBeyond)
}

// P12.2 to P12.5: many images, of which some are at fault, against the chapter's words.
func TestScattered(t *testing.T) {
	d := &dice{words: scattered(99991)}
	told := map[api.Errno]int{}
	for range 6000 {
		told[checkImage(t, someImage(d, 25))]++
	}
	for _, err := range []api.Errno{api.OK, api.ErrBeyond, api.ErrOp, api.ErrOperand, api.ErrSize, api.ErrNames} {
		if told[err] < 20 {
			t.Errorf("the error %d came %d times: %v", err, told[err], told)
		}
	}
}

// The object has Data, Zero and Stack as the image has them.
func TestOtherParts(t *testing.T) {
	im := full()
	o, err := list.Object(im)
	if err != api.OK || !slices.Equal(o.Data, im.Data) || o.Zero != im.Zero || o.Stack != im.Stack {
		t.Errorf("%v, %d", o, err)
	}
}

package link_test

import (
	"slices"
	"sort"
	"strconv"
	"testing"

	"playpen/api"
	"playpen/asm"
	"playpen/isa"
	"playpen/link"
)

// sameImage tells whether two images are one thing.
func sameImage(x, y api.Image) bool {
	return slices.Equal(x.Code, y.Code) && slices.Equal(x.Jumps, y.Jumps) && slices.Equal(x.Data, y.Data) &&
		x.Zero == y.Zero && x.Stack == y.Stack && slices.Equal(x.Names, y.Names)
}

// sameObject tells whether two objects are one thing.
func sameObject(x, y api.Object) bool {
	return slices.Equal(x.Code, y.Code) && slices.Equal(x.Data, y.Data) && x.Zero == y.Zero && x.Stack == y.Stack &&
		slices.Equal(x.Labels, y.Labels) && slices.Equal(x.Fixes, y.Fixes) &&
		slices.Equal(x.Targets, y.Targets) && slices.Equal(x.Entries, y.Entries)
}

// cloned gives objects with lists of their own.
func cloned(objects []api.Object) []api.Object {
	list := slices.Clone(objects)
	for i, o := range list {
		o.Code, o.Data, o.Labels = slices.Clone(o.Code), slices.Clone(o.Data), slices.Clone(o.Labels)
		o.Fixes, o.Targets, o.Entries = slices.Clone(o.Fixes), slices.Clone(o.Targets), slices.Clone(o.Entries)
		list[i] = o
	}
	return list
}

// two gives the two objects of the chapter's examples.
func two() []api.Object {
	return []api.Object{{
		Code:   []api.Instr{{Op: api.OpEnter, Arg: 8}, {Op: api.OpConst}, {Op: api.OpCall}, {Op: api.OpLeave, Arg: 8}},
		Data:   []byte{1, 2, 3},
		Zero:   2,
		Labels: []api.Label{{Name: "main", In: api.SecCode, At: 0, Open: true}, {Name: "d", In: api.SecData, At: 2}},
		Fixes:  []api.Fix{{In: api.SecCode, At: 1, Name: "f", Add: 0}},
	}, {
		Code:    []api.Instr{{Op: api.OpEnter, Arg: 4}, {Op: api.OpConst, Arg: 7}, {Op: api.OpLeave, Arg: 4}},
		Data:    []byte{9},
		Labels:  []api.Label{{Name: "f", In: api.SecCode, At: 0, Open: true}, {Name: "z", In: api.SecZero, At: 0}},
		Entries: []api.Entry{{Name: "run", Label: "f"}},
	}}
}

// twoLinked gives the image of the two.
func twoLinked() api.Image {
	return api.Image{
		Code: []api.Instr{
			{Op: api.OpEnter, Arg: 8}, {Op: api.OpConst, Arg: 4}, {Op: api.OpCall}, {Op: api.OpLeave, Arg: 8},
			{Op: api.OpEnter, Arg: 4}, {Op: api.OpConst, Arg: 7}, {Op: api.OpLeave, Arg: 4},
		},
		Data:  []byte{1, 2, 3, 9},
		Zero:  2,
		Stack: 64,
		Names: []api.Export{{Name: "run", At: 4}},
	}
}

// mustLink gives the image of objects that have no fault.
func mustLink(t *testing.T, what string, objects []api.Object) api.Image {
	t.Helper()
	im, at, err := link.Link(objects)
	if at != 0 || err != api.OK {
		t.Fatalf("%s: Link: %d, %d", what, at, err)
	}
	return im
}

// tryLink wants Link to refuse objects, and to tell nothing else.
func tryLink(t *testing.T, what string, objects []api.Object, at int, err api.Errno) {
	t.Helper()
	im, gotAt, gotErr := link.Link(objects)
	if gotAt != at || gotErr != err || !sameImage(im, api.Image{}) {
		t.Errorf("%s: Link: %d, %d, with %d instructions, want %d, %d", what, gotAt, gotErr, len(im.Code), at, err)
	}
}

// tryLayout wants Link and Map to refuse objects with one error.
func tryLayout(t *testing.T, what string, objects []api.Object, at int, err api.Errno) {
	t.Helper()
	tryLink(t, what, objects, at, err)
	symbols, gotAt, gotErr := link.Map(objects)
	if gotAt != at || gotErr != err || len(symbols) != 0 {
		t.Errorf("%s: Map: %d, %d, with %d symbols, want %d, %d", what, gotAt, gotErr, len(symbols), at, err)
	}
}

// tryNames wants Map to take objects, whatever Link says of their names.
func tryNames(t *testing.T, what string, objects []api.Object, at int, err api.Errno) {
	t.Helper()
	tryLink(t, what, objects, at, err)
	if _, gotAt, gotErr := link.Map(objects); gotAt != 0 || gotErr != api.OK {
		t.Errorf("%s: Map: %d, %d", what, gotAt, gotErr)
	}
}

// The oracle: the chapter's words, one by one, with every number counted anew.

// base gives the base of a section of object number i.
func base(objects []api.Object, i int, in api.Section) int {
	sum := 0
	for j, o := range objects {
		switch {
		case in == api.SecCode && j < i:
			sum += len(o.Code)
		case in == api.SecData && j < i:
			sum += len(o.Data)
		case in == api.SecZero:
			sum += len(o.Data)
			if j < i {
				sum += int(o.Zero)
			}
		}
	}
	return sum
}

// find gives the label that a name means in object i, and its value.
func find(objects []api.Object, i int, name string) (api.Label, uint32, bool) {
	for _, label := range objects[i].Labels {
		if label.Name == name {
			return label, uint32(base(objects, i, label.In) + int(label.At)), true
		}
	}
	for j, o := range objects {
		for _, label := range o.Labels {
			if j != i && label.Open && label.Name == name {
				return label, uint32(base(objects, j, label.In) + int(label.At)), true
			}
		}
	}
	return api.Label{}, 0, false
}

// stackBy gives the stack of an image.
func stackBy(objects []api.Object) int {
	greatest := 0
	for _, o := range objects {
		greatest = max(greatest, int(o.Stack))
	}
	if greatest == 0 {
		return 64
	}
	return greatest
}

// clashes tells whether object i has an open label whose name an open one ahead has.
func clashes(objects []api.Object, i int) bool {
	for _, o := range objects[:i] {
		for _, label := range o.Labels {
			for _, own := range objects[i].Labels {
				if label.Open && own.Open && label.Name == own.Name {
					return true
				}
			}
		}
	}
	return false
}

func layoutBy(objects []api.Object) (int, api.Errno) {
	if len(objects) < 1 || len(objects) > 64 {
		return 0, api.ErrObjects
	}
	for i, o := range objects {
		switch {
		case asm.Check(o) != api.OK:
			return i, api.ErrObject
		case clashes(objects, i):
			return i, api.ErrClash
		case base(objects, i, api.SecCode)+len(o.Code) > 16384:
			return i, api.ErrInstrs
		case o.Stack != 0 && (o.Stack < 64 || o.Stack > 32768 || o.Stack%4 != 0):
			return i, api.ErrSize
		}
	}
	if base(objects, len(objects), api.SecZero)+stackBy(objects) > 65536 {
		return len(objects) - 1, api.ErrSize
	}
	return 0, api.OK
}

func mapBy(objects []api.Object) ([]api.Symbol, int, api.Errno) {
	if at, err := layoutBy(objects); err != api.OK {
		return nil, at, err
	}
	var list []api.Symbol
	for i, o := range objects {
		for _, label := range o.Labels {
			value := uint32(base(objects, i, label.In)) + label.At
			list = append(list, api.Symbol{Object: i, Name: label.Name, In: label.In, Value: value, Open: label.Open})
		}
	}
	return list, 0, api.OK
}

func lacksBy(objects []api.Object) ([]string, int, api.Errno) {
	if len(objects) < 1 || len(objects) > 64 {
		return nil, 0, api.ErrObjects
	}
	for i, o := range objects {
		if asm.Check(o) != api.OK {
			return nil, i, api.ErrObject
		}
	}
	var list []string
	ask := func(i int, name string) {
		if _, _, is := find(objects, i, name); !is && !slices.Contains(list, name) {
			list = append(list, name)
		}
	}
	for i, o := range objects {
		for _, entry := range o.Entries {
			ask(i, entry.Label)
		}
		for _, target := range o.Targets {
			ask(i, target)
		}
		for _, fix := range o.Fixes {
			ask(i, fix.Name)
		}
	}
	sort.Strings(list)
	return list, 0, api.OK
}

// linking is the oracle's image so far.
type linking struct {
	objects []api.Object
	image   api.Image
	jumps   map[uint32]bool
}

func linkBy(objects []api.Object) (api.Image, int, api.Errno) {
	if at, err := layoutBy(objects); err != api.OK {
		return api.Image{}, at, err
	}
	l := &linking{objects: objects, jumps: map[uint32]bool{}}
	for _, o := range objects {
		l.image.Code = append(l.image.Code, o.Code...)
		l.image.Data = append(l.image.Data, o.Data...)
		l.image.Zero += o.Zero
	}
	l.image.Stack = uint32(stackBy(objects))
	for i := range objects {
		for _, part := range []func(int) api.Errno{l.fixes, l.targets, l.entries} {
			if err := part(i); err != api.OK {
				return api.Image{}, i, err
			}
		}
		if len(l.jumps) > 16384 {
			return api.Image{}, i, api.ErrTable
		}
	}
	for value := range uint32(16385) {
		if l.jumps[value] {
			l.image.Jumps = append(l.image.Jumps, value)
		}
	}
	sort.Slice(l.image.Names, func(i, j int) bool { return l.image.Names[i].Name < l.image.Names[j].Name })
	return l.image, 0, api.OK
}

func (l *linking) fixes(i int) api.Errno {
	for _, fix := range l.objects[i].Fixes {
		_, value, is := find(l.objects, i, fix.Name)
		if !is {
			return api.ErrMissing
		}
		laid := uint32((uint64(value) + uint64(fix.Add)) % (1 << 32))
		at := base(l.objects, i, fix.In) + int(fix.At)
		if fix.In == api.SecCode {
			l.image.Code[at].Arg = laid
			if isa.Check(l.image.Code[at]) != api.OK {
				return api.ErrFix
			}
			continue
		}
		for n := range 4 {
			l.image.Data[at+n] = byte(laid % 256)
			laid /= 256
		}
	}
	return api.OK
}

func (l *linking) place(i int, name string) (uint32, api.Errno) {
	label, value, is := find(l.objects, i, name)
	switch {
	case !is:
		return 0, api.ErrMissing
	case label.In != api.SecCode:
		return 0, api.ErrInCode
	}
	return value, api.OK
}

func (l *linking) targets(i int) api.Errno {
	for _, target := range l.objects[i].Targets {
		value, err := l.place(i, target)
		if err != api.OK {
			return err
		}
		l.jumps[value] = true
	}
	return api.OK
}

func (l *linking) entries(i int) api.Errno {
	for _, entry := range l.objects[i].Entries {
		value, err := l.place(i, entry.Label)
		if err != api.OK {
			return err
		}
		for _, export := range l.image.Names {
			if export.Name == entry.Name {
				return api.ErrClash
			}
		}
		l.image.Names = append(l.image.Names, api.Export{Name: entry.Name, At: value})
		if len(l.image.Names) > 64 {
			return api.ErrNames
		}
	}
	return api.OK
}

// checkAll holds the three calls against the oracle, and tells Link's error.
func checkAll(t *testing.T, objects []api.Object) api.Errno {
	t.Helper()
	im, at, err := link.Link(objects)
	if want, wantAt, wantErr := linkBy(objects); at != wantAt || err != wantErr || !sameImage(im, want) {
		t.Fatalf("Link(%v): %v, %d, %d, want %v, %d, %d", objects, im, at, err, want, wantAt, wantErr)
	}
	symbols, at, mapErr := link.Map(objects)
	if want, wantAt, wantErr := mapBy(objects); at != wantAt || mapErr != wantErr || !slices.Equal(symbols, want) {
		t.Fatalf("Map(%v): %v, %d, %d, want %v, %d, %d", objects, symbols, at, mapErr, want, wantAt, wantErr)
	}
	names, at, lacksErr := link.Lacks(objects)
	if want, wantAt, wantErr := lacksBy(objects); at != wantAt || lacksErr != wantErr || !slices.Equal(names, want) {
		t.Fatalf("Lacks(%v): %q, %d, %d, want %q, %d, %d", objects, names, at, lacksErr, want, wantAt, wantErr)
	}
	return err
}

// scattered gives so many words, always the same ones, from all over.
func scattered(count int) []uint32 {
	list := make([]uint32, count)
	state := uint64(0x9E3779B97F4A7C15)
	for i := range list {
		state ^= state << 13
		state ^= state >> 7
		state ^= state << 17
		list[i] = uint32(state * 0x2545F4914F6CDD1D >> 32)
	}
	return list
}

// dice hands out scattered words one by one, over and over.
type dice struct {
	words []uint32
	next  int
}

func (d *dice) upTo(most int) int {
	d.next = (d.next + 1) % len(d.words)
	return int(uint64(d.words[d.next]) * uint64(most+1) >> 32)
}

// rarely is true once in so many times.
func (d *dice) rarely(times int) bool { return d.upTo(times-1) == 0 }

// someObjects gives a few objects that may be. Faults of linking are rare enough that many of them can be linked: strays says how rare, 0 that there are none.
func someObjects(d *dice, strays int) []api.Object {
	stray := func() bool { return strays > 0 && d.rarely(strays) }
	objects := make([]api.Object, 1+d.upTo(4))
	for i := range objects {
		layParts(d, &objects[i])
		layLabels(d, objects, i, stray)
	}
	for i := range objects {
		layWants(d, objects, i, stray)
	}
	return objects
}

// layParts gives an object its code, data, noughts and stack, and fixes without names.
func layParts(d *dice, o *api.Object) {
	for range d.upTo(6) {
		in := api.Instr{Op: api.Op(1 + d.upTo(58))}
		if d.upTo(2) > 0 {
			in.Op = []api.Op{api.OpConst, api.OpLocal, api.OpEnter, api.OpGoto, api.OpLti, api.OpCopy, api.OpLeave, api.OpArg}[d.upTo(7)]
		}
		info, _ := isa.Info(in.Op)
		if info.Width > 0 && d.upTo(1) == 0 {
			o.Fixes = append(o.Fixes, api.Fix{In: api.SecCode, At: uint32(len(o.Code))})
		} else {
			in.Arg = uint32(uint64(d.upTo(1<<32-1)) % (uint64(info.Most) + 1))
		}
		o.Code = append(o.Code, in)
	}
	for range d.upTo(4) {
		if d.upTo(1) == 0 {
			o.Fixes = append(o.Fixes, api.Fix{In: api.SecData, At: uint32(len(o.Data))})
			o.Data = append(o.Data, 0, 0, 0, 0)
			continue
		}
		for range d.upTo(5) {
			o.Data = append(o.Data, byte(d.upTo(255)))
		}
	}
	o.Zero = uint32(d.upTo(1) * d.upTo(9))
	if d.upTo(2) == 0 {
		o.Stack = uint32(64 + 4*d.upTo(50))
	}
}

// layLabels gives object i labels: some of names that all objects have, some of its own.
func layLabels(d *dice, objects []api.Object, i int, stray func() bool) {
	o := &objects[i]
	for n := range d.upTo(7) {
		name := "n" + strconv.Itoa(n)
		label := api.Label{Name: name, In: api.Section(1 + d.upTo(2)), Open: d.upTo(2) > 0}
		if d.upTo(1) == 0 {
			label.In = api.SecCode
		}
		length := map[api.Section]int{api.SecCode: len(o.Code), api.SecData: len(o.Data), api.SecZero: int(o.Zero)}[label.In]
		label.At = uint32(d.upTo(length))
		for _, fix := range o.Fixes {
			if fix.In == api.SecData && label.In == api.SecData && label.At > fix.At && label.At < fix.At+4 {
				label.At = fix.At
			}
		}
		if label.Open && isOpen(objects[:i], name) && !stray() {
			label.Open = false
		}
		o.Labels = append(o.Labels, label)
	}
	sort.SliceStable(o.Labels, func(i, j int) bool {
		x, y := o.Labels[i], o.Labels[j]
		return x.In < y.In || x.In == y.In && x.At < y.At
	})
}

// isOpen tells whether one of the objects has an open label of a name.
func isOpen(objects []api.Object, name string) bool {
	return slices.ContainsFunc(objects, func(o api.Object) bool {
		return slices.ContainsFunc(o.Labels, func(l api.Label) bool { return l.Open && l.Name == name })
	})
}

// visible gives the names that mean a label in object i; of the code alone, if that is asked for.
func visible(objects []api.Object, i int, code bool) []string {
	var list []string
	for n := range 8 {
		name := "n" + strconv.Itoa(n)
		if label, _, is := find(objects, i, name); is && (!code || label.In == api.SecCode) {
			list = append(list, name)
		}
	}
	return list
}

// layWants gives object i names for its fixes, targets and entries.
func layWants(d *dice, objects []api.Object, i int, stray func() bool) {
	o := &objects[i]
	all, code := visible(objects, i, false), visible(objects, i, true)
	name := func(list []string) string {
		if stray() || len(list) == 0 {
			return "n" + strconv.Itoa(d.upTo(7))
		}
		return list[d.upTo(len(list)-1)]
	}
	if len(all) == 0 && !stray() {
		o.Fixes = nil
	}
	for n := range o.Fixes {
		fix := &o.Fixes[n]
		fix.Name = name(all)
		_, value, is := find(objects, i, fix.Name)
		switch {
		case fix.In == api.SecData || o.Code[fix.At].Op == api.OpConst || stray():
			fix.Add = uint32(d.upTo(2) * d.upTo(1<<32-1))
		case is:
			info, _ := isa.Info(o.Code[fix.At].Op)
			fix.Add = uint32(uint64(d.upTo(1<<32-1))%(uint64(info.Most)+1)) - value
		}
	}
	if len(code) == 0 && !stray() {
		return
	}
	for range d.upTo(3) {
		if target := name(code); !slices.Contains(o.Targets, target) {
			o.Targets = append(o.Targets, target)
		}
	}
	for n := range d.upTo(2) {
		entry := api.Entry{Name: strconv.Itoa(d.upTo(9)) + "." + strconv.Itoa(i) + strconv.Itoa(n), Label: name(code)}
		if stray() {
			entry.Name = "same" + strconv.Itoa(n)
		}
		o.Entries = append(o.Entries, entry)
	}
}

package list_test

import (
	"bytes"
	"fmt"
	"slices"
	"strings"
	"testing"

	"playpen/api"
	"playpen/asm"
	"playpen/image"
	"playpen/isa"
	"playpen/link"
	"playpen/list"
)

// words has the operations' words in the order of their numbers.
const words = `nop break enter leave call goto jump const local pop dup arg
	eq ne lti lei gti gei ltu leu gtu geu eqf nef ltf lef gtf gef
	load1 load2 load4 store1 store2 store4 copy sex8 sex16 neg
	add sub mul divi divu modi modu and or xor not shl shri shru
	negf addf subf mulf divf cvif cvfi`

// shape is how many bytes an operand has, and the greatest one.
type shape struct {
	width int
	most  uint32
}

// shapeOf gives the shape of the operand of an operation, by its word.
func shapeOf(word string) shape {
	switch word {
	case "enter", "leave":
		return shape{2, 65535}
	case "const", "local":
		return shape{4, 1<<32 - 1}
	case "arg":
		return shape{1, 14}
	case "copy":
		return shape{2, 256}
	case "goto":
		return shape{2, 16383}
	}
	comparisons := "eq ne lti lei gti gei ltu leu gtu geu eqf nef ltf lef gtf gef"
	if slices.Contains(strings.Fields(comparisons), word) {
		return shape{2, 16383}
	}
	return shape{}
}

// wordOf gives an operation's word; nothing, if the number is none.
func wordOf(op api.Op) string {
	list := strings.Fields(words)
	if op < 1 || int(op) > len(list) {
		return ""
	}
	return list[op-1]
}

// sameImage tells whether two images are one thing.
func sameImage(x, y api.Image) bool {
	return slices.Equal(x.Code, y.Code) && slices.Equal(x.Jumps, y.Jumps) && bytes.Equal(x.Data, y.Data) &&
		x.Zero == y.Zero && x.Stack == y.Stack && slices.Equal(x.Names, y.Names)
}

// sameObject tells whether two objects are one thing.
func sameObject(x, y api.Object) bool {
	return slices.Equal(x.Code, y.Code) && bytes.Equal(x.Data, y.Data) && x.Zero == y.Zero && x.Stack == y.Stack &&
		slices.Equal(x.Labels, y.Labels) && slices.Equal(x.Fixes, y.Fixes) &&
		slices.Equal(x.Targets, y.Targets) && slices.Equal(x.Entries, y.Entries)
}

// cloned gives an image with lists of its own.
func cloned(im api.Image) api.Image {
	im.Code, im.Jumps, im.Data, im.Names = slices.Clone(im.Code), slices.Clone(im.Jumps), slices.Clone(im.Data), slices.Clone(im.Names)
	return im
}

// sample gives the image of the chapter's examples.
func sample() api.Image {
	return api.Image{
		Code: []api.Instr{
			{Op: api.OpEnter, Arg: 8}, {Op: api.OpConst, Arg: 0}, {Op: api.OpConst, Arg: 1}, {Op: api.OpEq, Arg: 5},
			{Op: api.OpGoto, Arg: 1}, {Op: api.OpConst, Arg: 7}, {Op: api.OpLeave, Arg: 8},
		},
		Jumps: []uint32{5},
		Zero:  4,
		Stack: 64,
		Names: []api.Export{{Name: "main", At: 0}},
	}
}

// full gives an image that has something in every part.
func full() api.Image {
	im := sample()
	im.Jumps = []uint32{2, 5, 7}
	im.Data = []byte("data \x00\xff and more than one row")
	im.Names = []api.Export{{Name: "\x00\xff", At: 7}, {Name: "main", At: 0}, {Name: "same", At: 0}}
	return im
}

// nops gives so many instructions without operand.
func nops(count int) []api.Instr {
	return slices.Repeat([]api.Instr{{Op: api.OpNop}}, count)
}

// upTo gives the indices from 0 on, so many.
func upTo(count int) []uint32 {
	var list []uint32
	for i := range count {
		list = append(list, uint32(i))
	}
	return list
}

// The oracle: the chapter's words, one by one.

func lineBy(in api.Instr) (string, api.Errno) {
	word := wordOf(in.Op)
	form := shapeOf(word)
	switch {
	case word == "":
		return "", api.ErrOp
	case in.Arg > form.most:
		return "", api.ErrOperand
	case form.width == 0:
		return word, api.OK
	}
	return fmt.Sprintf("%s %d", word, int32(in.Arg)), api.OK
}

// isTarget tells whether an instruction's operand is a place of the image by being a static target.
func isTarget(im api.Image, in api.Instr) bool {
	return shapeOf(wordOf(in.Op)) == (shape{2, 16383}) && int64(in.Arg) <= int64(len(im.Code))
}

// isPlace tells whether an index is a place of an image.
func isPlace(im api.Image, i uint32) bool {
	return slices.Contains(im.Jumps, i) ||
		slices.ContainsFunc(im.Names, func(name api.Export) bool { return name.At == i }) ||
		slices.ContainsFunc(im.Code, func(in api.Instr) bool { return in.Arg == i && isTarget(im, in) })
}

// beyondBy tells whether ErrBeyond applies.
func beyondBy(im api.Image) bool {
	for i, jump := range im.Jumps {
		if int64(jump) > int64(len(im.Code)) {
			return true
		}
		if slices.ContainsFunc(im.Jumps[:i], func(ahead uint32) bool { return ahead >= jump }) {
			return true
		}
	}
	for _, name := range im.Names {
		if int64(name.At) > int64(len(im.Code)) {
			return true
		}
	}
	return false
}

func objectBy(im api.Image) (api.Object, api.Errno) {
	if err := image.Check(im); err != api.OK {
		return api.Object{}, err
	}
	if beyondBy(im) {
		return api.Object{}, api.ErrBeyond
	}
	o := api.Object{Data: im.Data, Zero: im.Zero, Stack: im.Stack}
	for i := range uint32(len(im.Code) + 1) {
		if isPlace(im, i) {
			o.Labels = append(o.Labels, api.Label{Name: fmt.Sprintf("at%d", i), In: api.SecCode, At: i, Open: false})
		}
	}
	if len(o.Labels) > 4096 {
		return api.Object{}, api.ErrPlaces
	}
	for i, in := range im.Code {
		if isTarget(im, in) {
			o.Fixes = append(o.Fixes, api.Fix{In: api.SecCode, At: uint32(i), Name: fmt.Sprintf("at%d", in.Arg), Add: 0})
			in.Arg = 0
		}
		o.Code = append(o.Code, in)
	}
	for _, jump := range im.Jumps {
		o.Targets = append(o.Targets, fmt.Sprintf("at%d", jump))
	}
	for _, name := range im.Names {
		o.Entries = append(o.Entries, api.Entry{Name: name.Name, Label: fmt.Sprintf("at%d", name.At)})
	}
	return o, api.OK
}

// instructionBy reads the instruction with which bytes begin, if there is one.
func instructionBy(b []byte) (api.Instr, int, bool) {
	word := wordOf(api.Op(b[0]))
	form := shapeOf(word)
	if word == "" || len(b) < 1+form.width {
		return api.Instr{}, 0, false
	}
	in := api.Instr{Op: api.Op(b[0])}
	for i := form.width; i > 0; i-- {
		in.Arg = in.Arg*256 + uint32(b[i])
	}
	return in, 1 + form.width, in.Arg <= form.most
}

func dumpBy(b []byte) (string, api.Errno) {
	if len(b) > 65536 {
		return "", api.ErrDump
	}
	var all strings.Builder
	at, count := 0, 0
	for ; at < len(b) && count < 16384; count++ {
		in, size, is := instructionBy(b[at:])
		if !is {
			break
		}
		line, _ := lineBy(in)
		fmt.Fprintf(&all, "%-24s%s\n", fmt.Sprintf("%06x  % x", at, b[at:at+size]), line)
		at += size
	}
	for ; at < len(b); at += 8 {
		fmt.Fprintf(&all, "%06x  % x\n", at, b[at:min(at+8, len(b))])
	}
	return all.String(), api.OK
}

// checkImage holds Object and Text against the oracle, and what follows against both; it tells Text's error.
func checkImage(t *testing.T, im api.Image) api.Errno {
	t.Helper()
	want, wantErr := objectBy(im)
	o, err := list.Object(im)
	if err != wantErr || !sameObject(o, want) {
		t.Fatalf("Object(%v): %v, %d, want %v, %d", im, o, err, want, wantErr)
	}
	text, err := list.Text(im)
	if wantErr != api.OK {
		if text != "" || err != wantErr {
			t.Fatalf("Text(%v): %q, %d, want %d", im, text, err, wantErr)
		}
		return err
	}
	if err := asm.Check(o); err != api.OK {
		t.Fatalf("the object of %v may not be: %d", im, err)
	}
	if printed, printErr := asm.Print(want); text != printed || err != printErr {
		t.Fatalf("Text(%v): %q, %d, want %q, %d", im, text, err, printed, printErr)
	}
	if err == api.OK {
		checkBack(t, im, text)
	}
	return err
}

// checkBack wants a text to be assembled and linked to the image.
func checkBack(t *testing.T, im api.Image, text string) {
	t.Helper()
	o, fault := asm.Assemble(text)
	if fault != (api.AsmFault{}) {
		t.Fatalf("the text of %v is refused: %v\n%s", im, fault, text)
	}
	back, at, err := link.Link([]api.Object{o})
	if at != 0 || err != api.OK || !sameImage(back, im) {
		t.Fatalf("%v came back as %v, %d, %d", im, back, at, err)
	}
}

// tryImage wants Object and Text to refuse an image, and to tell nothing else.
func tryImage(t *testing.T, what string, im api.Image, want api.Errno) {
	t.Helper()
	o, err := list.Object(im)
	if err != want || !sameObject(o, api.Object{}) {
		t.Errorf("%s: Object: %d, with %d labels, want %d", what, err, len(o.Labels), want)
	}
	text, err := list.Text(im)
	if err != want || text != "" {
		t.Errorf("%s: Text: %q, %d, want %d", what, text, err, want)
	}
}

// mustObject gives the object of an image that has no fault.
func mustObject(t *testing.T, what string, im api.Image) api.Object {
	t.Helper()
	o, err := list.Object(im)
	if err != api.OK {
		t.Fatalf("%s: Object: %d", what, err)
	}
	if err := asm.Check(o); err != api.OK {
		t.Fatalf("%s: the object may not be: %d", what, err)
	}
	return o
}

// checkDump holds Dump against the oracle, and what follows against it.
func checkDump(t *testing.T, b []byte) {
	t.Helper()
	text, err := list.Dump(b)
	if want, wantErr := dumpBy(b); text != want || err != wantErr {
		t.Fatalf("Dump(% x): %q, %d, want %q, %d", b, text, err, want, wantErr)
	}
	if err == api.OK {
		checkPairs(t, b, text)
	}
}

// scattered gives so many words, always the same ones, from all over.
func scattered(count int) []uint32 {
	list := make([]uint32, count)
	state := uint64(0x9E3779B97F4A7C15)
	for i := range list {
		state ^= state << 13
		state ^= state >> 7
		state ^= state << 17
		list[i] = uint32(state * 0x2545F4914F6CDD1D >> 32)
	}
	return list
}

// dice hands out scattered words one by one, over and over.
type dice struct {
	words []uint32
	next  int
}

func (d *dice) upTo(most int64) int64 {
	d.next = (d.next + 1) % len(d.words)
	return int64(uint64(d.words[d.next]) * uint64(most+1) >> 32)
}

// rarely is true once in so many times.
func (d *dice) rarely(times int64) bool { return d.upTo(times-1) == 0 }

// someInstruction gives one that may be, often one with a static target near the code's end.
func someInstruction(d *dice, count int64) api.Instr {
	in := api.Instr{Op: api.Op(1 + d.upTo(58))}
	if d.upTo(1) == 0 {
		in.Op = api.OpEq + api.Op(d.upTo(15))
		if d.upTo(1) == 0 {
			in.Op = api.OpGoto
		}
		in.Arg = uint32(d.upTo(count + 2))
		return in
	}
	info, _ := isa.Info(in.Op)
	in.Arg = uint32(d.upTo(int64(info.Most)))
	if d.upTo(2) == 0 {
		in.Arg = min(uint32(d.upTo(count+1)), info.Most)
	}
	return in
}

// someImage gives an image. Faults are rare enough that many of them can be listed: strays says how rare, 0 that there are none.
func someImage(d *dice, strays int64) api.Image {
	stray := func() bool { return strays > 0 && d.rarely(strays) }
	im := api.Image{Zero: uint32(d.upTo(1) * d.upTo(99)), Stack: uint32(64 + 4*d.upTo(99))}
	count := d.upTo(3) * d.upTo(6)
	for range count {
		im.Code = append(im.Code, someInstruction(d, count))
		if stray() {
			im.Code[len(im.Code)-1].Op += api.Op(d.upTo(255))
		}
	}
	for i := range uint32(count + 1) {
		if d.upTo(2) == 0 {
			im.Jumps = append(im.Jumps, i)
		}
	}
	for range d.upTo(2) * d.upTo(20) {
		im.Data = append(im.Data, byte(d.upTo(255)))
	}
	for i := range d.upTo(4) {
		name := string(rune('A'+i)) + string([]byte{byte(d.upTo(255)), byte(d.upTo(255))}[d.upTo(2):])
		im.Names = append(im.Names, api.Export{Name: name, At: uint32(d.upTo(count))})
	}
	if stray() {
		layStray(d, &im)
	}
	return im
}

// layStray lays a fault into an image.
func layStray(d *dice, im *api.Image) {
	end := uint32(len(im.Code))
	switch d.upTo(7) {
	case 0:
		im.Jumps = append(im.Jumps, end+1)
	case 1:
		im.Jumps = append([]uint32{end}, im.Jumps...)
	case 2:
		im.Jumps = append(im.Jumps, im.Jumps...)
	case 3:
		im.Names = append(im.Names, api.Export{Name: "Z", At: end + 1})
	case 4:
		im.Names = append(im.Names, api.Export{Name: "@", At: end})
	case 5:
		im.Stack += uint32(d.upTo(3))
	case 6:
		im.Zero += uint32(d.upTo(1<<32 - 1))
	case 7:
		im.Jumps = append(im.Jumps, uint32(d.upTo(1<<32-1)))
	}
}

package image_test

import (
	"strings"
	"testing"

	"playpen/api"
	"playpen/image"
)

// P8.1: every single fault of an image, at its edge.
func TestCheckEdges(t *testing.T) {
	for _, x := range []struct {
		what string
		im   api.Image
		want api.Errno
	}{
		{"the first example", api.Image{Code: smallCode(), Stack: 64}, api.OK},
		{"nothing but a stack", api.Image{Stack: 64}, api.OK},
		{"nothing", api.Image{}, api.ErrSize},
		{"all parts", fullImage(), api.OK},
		{"the greatest parts", greatest(), api.OK},
		{"as many instructions as may be", api.Image{Code: nops(16384), Stack: 64}, api.OK},
		{"one more", api.Image{Code: nops(16385), Stack: 64}, api.ErrInstrs},
		{"no operation", api.Image{Code: append(smallCode(), api.Instr{}), Stack: 64}, api.ErrOp},
		{"an operand too great", api.Image{Code: append(smallCode(), api.Instr{Op: api.OpArg, Arg: 15}), Stack: 64}, api.ErrOperand},
		{"as many jumps as may be", api.Image{Jumps: make([]uint32, 16384), Stack: 64}, api.OK},
		{"one jump more", api.Image{Jumps: make([]uint32, 16385), Stack: 64}, api.ErrTable},
		{"jumps that fall and lie nowhere", api.Image{Jumps: []uint32{9, 9, 1<<32 - 1, 0}, Stack: 64}, api.OK},
	} {
		if err := image.Check(x.im); err != x.want {
			t.Errorf("%s: %d, want %d", x.what, err, x.want)
		}
	}
}

// P8.1: stacks at all edges.
func TestCheckStack(t *testing.T) {
	for stack := uint32(0); stack < 70000; stack++ {
		want := api.ErrSize
		if stack%4 == 0 && 64 <= stack && stack <= 32768 {
			want = api.OK
		}
		if err := image.Check(api.Image{Stack: stack}); err != want {
			t.Fatalf("stack %d: %d", stack, err)
		}
	}
	for _, stack := range []uint32{1 << 16, 1<<16 + 64, 1<<31 + 64, 1<<32 - 4, 1<<32 - 64, 1<<32 - 1} {
		if err := image.Check(api.Image{Stack: stack}); err != api.ErrSize {
			t.Errorf("stack %d: %d", stack, err)
		}
	}
}

// P8.1, P8.2: what data, noughts and stack come to together, at each power of two and beyond what a word can tell.
func TestRoom(t *testing.T) {
	for _, stack := range []uint32{64, 68, 128, 256, 4096, 32768} {
		for _, data := range []int{0, 1, 100, 192, 32767, 32768, 32769, 65471, 65472, 65473, 65536, 65537} {
			for k := 6; k <= 17; k++ {
				for more := -2; more <= 2; more++ {
					zero := 1<<k + more - data - int(stack)
					if zero < 0 {
						continue
					}
					checkEncode(t, api.Image{Data: make([]byte, data), Zero: uint32(zero), Stack: stack})
				}
			}
			for more := range uint32(200) {
				checkEncode(t, api.Image{Data: make([]byte, data), Zero: 1<<32 - 1 - more, Stack: stack})
			}
		}
	}
}

// P8.2: the document's examples.
func TestBitsExamples(t *testing.T) {
	for _, x := range []struct {
		data        int
		zero, stack uint32
		want        int
		err         api.Errno
	}{
		{0, 0, 64, 8, api.OK}, {100, 92, 64, 8, api.OK}, {100, 93, 64, 9, api.OK},
		{0, 32768, 32768, 16, api.OK}, {1, 32768, 32768, 0, api.ErrSize},
		{0, 0, 66, 0, api.ErrSize}, {0, 0, 60, 0, api.ErrSize}, {0, 448, 64, 9, api.OK}, {0, 449, 64, 10, api.OK},
	} {
		k, err := image.Bits(api.Image{Code: smallCode(), Data: make([]byte, x.data), Zero: x.zero, Stack: x.stack})
		if k != x.want || err != x.err {
			t.Errorf("Bits of %v: %d, %d", x, k, err)
		}
	}
}

// P8.1: names of all lengths, of any bytes, rising or not.
func TestCheckNames(t *testing.T) {
	for _, x := range []struct {
		names []string
		want  api.Errno
	}{
		{nil, api.OK}, {[]string{"A", "a", "aa", "b"}, api.OK},
		{[]string{"b", "a"}, api.ErrNames}, {[]string{"a", "a"}, api.ErrNames}, {[]string{"aa", "a"}, api.ErrNames},
		{[]string{"a", "c", "b"}, api.ErrNames}, {[]string{"a", "B"}, api.ErrNames},
		{[]string{""}, api.ErrNames}, {[]string{"", "a"}, api.ErrNames}, {[]string{"a", ""}, api.ErrNames},
		{[]string{strings.Repeat("x", 32)}, api.OK}, {[]string{strings.Repeat("x", 33)}, api.ErrNames},
		{[]string{"a", strings.Repeat("x", 33)}, api.ErrNames}, {[]string{strings.Repeat("x", 300)}, api.ErrNames},
		{[]string{"\x00", "\x00\x00", " ", "\x7f", "\x80", "\xff", "\xff\xff"}, api.OK},
		{[]string{"\x80", "\x7f"}, api.ErrNames}, {[]string{"\u00e9", "z"}, api.ErrNames},
		{rising(64), api.OK}, {rising(65), api.ErrNames}, {rising(70), api.ErrNames},
	} {
		if err := image.Check(api.Image{Stack: 64, Names: named(x.names...)}); err != x.want {
			t.Errorf("names %q: %d, want %d", x.names, err, x.want)
		}
	}
}

// flaws spoil an image, in the order in which Check tells of them.
func flaws() []struct {
	spoil func(im *api.Image)
	want  api.Errno
} {
	return []struct {
		spoil func(im *api.Image)
		want  api.Errno
	}{
		{func(im *api.Image) { im.Code = append(im.Code, nops(16385)...) }, api.ErrInstrs},
		{func(im *api.Image) { im.Code = append([]api.Instr{{Op: api.OpPop, Arg: 1}}, im.Code...) }, api.ErrOperand},
		{func(im *api.Image) { im.Code = append(im.Code, api.Instr{Op: 60}) }, api.ErrOp},
		{func(im *api.Image) { im.Jumps = make([]uint32, 16385) }, api.ErrTable},
		{func(im *api.Image) { im.Stack = 66 }, api.ErrSize},
		{func(im *api.Image) { im.Zero = 65536 }, api.ErrSize},
		{func(im *api.Image) { im.Names = named("b", "a") }, api.ErrNames},
	}
}

// P8.1 to P8.3: of several faults the one is told that the document names first, by every call that asks Check.
func TestCheckOrder(t *testing.T) {
	for i, first := range flaws() {
		for _, second := range flaws()[i:] {
			im := fullImage()
			second.spoil(&im)
			first.spoil(&im)
			if err := image.Check(im); err != first.want {
				t.Errorf("%d and then %d: Check %d", first.want, second.want, err)
			}
			checkEncode(t, im)
		}
	}
}

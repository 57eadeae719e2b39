package verify_test

import (
	"slices"
	"strings"
	"testing"

	"playpen/api"
	"playpen/verify"
)

// The chapter's example 1.
func TestExampleModule(t *testing.T) {
	m, at, err := verify.Take(sample(t))
	if m == nil || at != 0 || err != api.OK {
		t.Fatalf("%d, %d", at, err)
	}
	if m.Bits() != 8 || m.Count() != 7 {
		t.Errorf("Bits %d, Count %d", m.Bits(), m.Count())
	}
	if list := m.Procs(); !slices.Equal(list, []api.Proc{{Begin: 0, End: 4, Frame: 8, Need: 1}, {Begin: 4, End: 7, Frame: 4, Need: 1}}) {
		t.Errorf("%v", list)
	}
	if m.Depth(2) != 1 || m.Depth(3) != 1 || m.Depth(9) != -1 {
		t.Errorf("%d, %d, %d", m.Depth(2), m.Depth(3), m.Depth(9))
	}
	if !m.Back(3) || m.Back(2) || !m.Begins(4) {
		t.Errorf("%t, %t, %t", m.Back(3), m.Back(2), m.Begins(4))
	}
	if at, is := m.Entry("main"); at != 0 || !is {
		t.Errorf("main: %d, %t", at, is)
	}
	if at, is := m.Entry("f"); at != 0 || is {
		t.Errorf("f: %d, %t", at, is)
	}
	check(t, sample(t))
}

// The chapter's example 2.
func TestExampleFaults(t *testing.T) {
	wantFault(t, "leave 4", with(sample(t), 3, in(api.OpLeave, 4)), 3, api.ErrFrame)
	wantFault(t, "nop", with(sample(t), 1, in(api.OpNop, 0)), 2, api.ErrUnder)
	named := sample(t)
	named.Names[0].At = 1
	wantFault(t, "the name's At 1", named, 0, api.ErrExport)
}

// The chapter's example 4.
func TestExampleNotReached(t *testing.T) {
	im := from(t, "0 enter 4, 1 goto 3, 2 add, 3 const 1, 4 leave 4")
	m := mustTake(t, im)
	if m.Depth(2) != -1 || m.Depth(3) != 0 || m.Depth(4) != 1 {
		t.Errorf("%d, %d, %d", m.Depth(2), m.Depth(3), m.Depth(4))
	}
	if one, is := m.At(2); one != in(api.OpAdd, 0) || !is {
		t.Errorf("%v, %t", one, is)
	}
	for op := api.Op(1); op <= api.LastOp; op++ {
		switch rowBy(op).kind {
		case api.KindPlain, api.KindCall, api.KindJump, api.KindStop:
			check(t, with(im, 2, in(op, 0)))
		case api.KindGoto, api.KindBranch:
			check(t, with(im, 2, in(op, 2)))
			wantFault(t, "a target outside", with(im, 2, in(op, 0)), 2, api.ErrTarget)
		case api.KindLeave:
			check(t, with(im, 2, in(op, 4)))
			wantFault(t, "another frame", with(im, 2, in(op, 8)), 2, api.ErrFrame)
		}
	}
	wantFault(t, "no operation", with(im, 2, in(60, 0)), 0, api.ErrOp)
}

// wrong is one way in which an image is at fault.
type wrong struct {
	what  string
	spoil func(im *api.Image)
	at    int
	err   api.Errno
}

// strong gives an image in which each of the wrongs may be laid, with none in the way of another.
func strong(t testing.TB) api.Image {
	t.Helper()
	im := from(t, `0 enter 4, 1 nop, 2 nop, 3 const 1, 4 leave 4,
		5 enter 8, 6 const 1, 7 leave 8,
		8 enter 12, 9 goto 10, 10 const 1, 11 leave 12,
		12 enter 16, 13 const 1, 14 leave 16,
		15 enter 4, 16 const 1, 17 leave 4,
		18 enter 4, `+times(64, "const 1")+times(63, "pop")+`leave 4,
		147 enter 4, 148 const 1, 149 const 1, 150 eq 152, 151 nop, 152 const 1, 153 leave 4,
		154 enter 4, 155 nop, 156 const 1, 157 leave 4`, 1, 6, 10, 13)
	im.Names = []api.Export{{Name: "a", At: 0}, {Name: "b", At: 5}, {Name: "c", At: 8}}
	return im
}

// wrongs gives ways to be at fault, in the order in which Take tells of them.
func wrongs() []wrong {
	return []wrong{
		{"too many instructions", func(im *api.Image) {
			im.Code = append(im.Code, slices.Repeat([]api.Instr{in(api.OpNop, 0)}, 16385-len(im.Code))...)
		}, 0, api.ErrInstrs},
		{"no operation", func(im *api.Image) { im.Code[1].Op = 60 }, 0, api.ErrOp},
		{"an operand too great", func(im *api.Image) { im.Code[2] = in(api.OpArg, 15) }, 0, api.ErrOperand},
		{"too many jumps", func(im *api.Image) { im.Jumps = make([]uint32, 16385) }, 0, api.ErrTable},
		{"the stack", func(im *api.Image) { im.Stack = 66 }, 0, api.ErrSize},
		{"a name twice", func(im *api.Image) { im.Names[2].Name = "b" }, 0, api.ErrNames},
		{"no enter at first", func(im *api.Image) { im.Code[0] = in(api.OpNop, 0) }, 0, api.ErrFirst},
		{"a frame", func(im *api.Image) { im.Code[5].Arg = 6 }, 5, api.ErrFrame},
		{"a leave of another frame", func(im *api.Image) { im.Code[7].Arg = 12 }, 7, api.ErrFrame},
		{"a target outside", func(im *api.Image) { im.Code[9].Arg = 12 }, 9, api.ErrTarget},
		{"a procedure that goes on", func(im *api.Image) { im.Code[14] = in(api.OpPop, 0) }, 14, api.ErrEnds},
		{"jumps that do not rise", func(im *api.Image) { im.Jumps[2] = 6 }, 2, api.ErrJumpTo},
		{"a jump to an enter", func(im *api.Image) { im.Jumps[3] = 15 }, 3, api.ErrJumpTo},
		{"a name of no procedure", func(im *api.Image) { im.Names[1].At = 6 }, 1, api.ErrExport},
		{"a word is lacking", func(im *api.Image) { im.Code[16] = in(api.OpNop, 0) }, 17, api.ErrUnder},
		{"a word too many", func(im *api.Image) { im.Code[83] = in(api.OpLocal, 0) }, 83, api.ErrOver},
		{"two ways that disagree", func(im *api.Image) { im.Code[151] = in(api.OpConst, 1) }, 151, api.ErrMeet},
		{"a leave with two words", func(im *api.Image) { im.Code[155] = in(api.OpConst, 1) }, 157, api.ErrLeave},
	}
}

// P15.1: each fault by itself, and with each later one besides: the first is told, with its place.
func TestTakeOrder(t *testing.T) {
	if check(t, strong(t)) != api.OK {
		t.Fatal("unspoiled it is at fault")
	}
	for i, first := range wrongs() {
		for _, second := range wrongs()[i:] {
			im := strong(t)
			// What is laid in last stands.
			second.spoil(&im)
			first.spoil(&im)
			wantFault(t, first.what+", and "+second.what, im, first.at, first.err)
		}
	}
}

// P15.2: Load tells Take's faults with Take's places, which are no places in the file.
func TestLoadOrder(t *testing.T) {
	for i, first := range wrongs() {
		for _, second := range wrongs()[i:] {
			im := strong(t)
			second.spoil(&im)
			first.spoil(&im)
			if checkBy(im) != api.OK {
				continue
			}
			wantRefused(t, first.what+", and "+second.what, bytesBy(im, 0), first.at, first.err)
		}
	}
}

// P15.1: faults of Check, all with the place 0, at their edges.
func TestTakeChecks(t *testing.T) {
	for _, x := range []struct {
		what  string
		spoil func(im *api.Image)
		err   api.Errno
	}{
		{"the least stack", func(im *api.Image) { im.Stack = 64 }, api.OK},
		{"a stack below it", func(im *api.Image) { im.Stack = 60 }, api.ErrSize},
		{"the greatest stack", func(im *api.Image) { im.Stack = 32768 }, api.OK},
		{"a stack above it", func(im *api.Image) { im.Stack = 32772 }, api.ErrSize},
		{"no stack", func(im *api.Image) { im.Stack = 0 }, api.ErrSize},
		{"as much as may be", func(im *api.Image) { im.Zero = 65536 - 64 }, api.OK},
		{"one byte more", func(im *api.Image) { im.Zero = 65537 - 64 }, api.ErrSize},
		{"more than a word can tell", func(im *api.Image) { im.Zero = 1<<32 - 64 }, api.ErrSize},
		{"one byte of data more", func(im *api.Image) { im.Zero, im.Data = 65536-64, []byte{1} }, api.ErrSize},
		{"no name", func(im *api.Image) { im.Names = nil }, api.OK},
		{"an empty name", func(im *api.Image) { im.Names[0].Name = "" }, api.ErrNames},
		{"the longest name", func(im *api.Image) { im.Names[0].Name = strings.Repeat("n", 32) }, api.OK},
		{"a longer name", func(im *api.Image) { im.Names[0].Name = strings.Repeat("n", 33) }, api.ErrNames},
		{"names that fall", func(im *api.Image) { im.Names = append(im.Names, api.Export{Name: "lain"}) }, api.ErrNames},
		{"no operation 0", func(im *api.Image) { im.Code[6].Op = 0 }, api.ErrOp},
		{"no operation 60", func(im *api.Image) { im.Code[6].Op = 60 }, api.ErrOp},
		{"an operand where there is none", func(im *api.Image) { im.Code[2].Arg = 1 }, api.ErrOperand},
	} {
		im := sample(t)
		x.spoil(&im)
		if err := check(t, im); err != x.err {
			t.Errorf("%s: %d, want %d", x.what, err, x.err)
		}
	}
}

// P15.1: as many of each thing as may be, and one more.
func TestTakeMost(t *testing.T) {
	most := from(t, "enter 4, "+times(16382, "nop")+"break")
	if check(t, most) != api.OK {
		t.Error("16384 instructions")
	}
	wantFault(t, "one more", from(t, "enter 4, "+times(16383, "nop")+"break"), 0, api.ErrInstrs)
	for to := uint32(1); to < 16384; to++ {
		most.Jumps = append(most.Jumps, to)
	}
	if m := mustTake(t, most); !m.Legal(0, 16383) || !m.Legal(16383, 1) || m.Legal(16383, 0) || m.Legal(0, 16384) {
		t.Error("16383 jumps")
	}
	most.Jumps = append(most.Jumps, 16384)
	wantFault(t, "a jump behind the code", most, 16383, api.ErrJumpTo)
	most.Jumps = append(most.Jumps, 16385)
	wantFault(t, "too many jumps", most, 0, api.ErrTable)
	im := from(t, times(65, "enter 4, break")+"enter 4, break")
	for i := range 64 {
		im.Names = append(im.Names, api.Export{Name: string([]byte{byte(i), 'n'}), At: uint32(2 * i)})
	}
	if check(t, im) != api.OK {
		t.Error("64 names")
	}
	im.Names = append(im.Names, api.Export{Name: "\xff", At: 128})
	wantFault(t, "65 names", im, 0, api.ErrNames)
}

// P15.1: faults of Find and Depths at the first and at the last place of their lists.
func TestTakePlaces(t *testing.T) {
	wantFault(t, "no code", api.Image{Stack: 64}, 0, api.ErrFirst)
	wantFault(t, "nothing", api.Image{}, 0, api.ErrSize)
	wantFault(t, "a break first", from(t, "break, enter 4, break"), 0, api.ErrFirst)
	wantFault(t, "an enter alone", from(t, "enter 4"), 0, api.ErrEnds)
	wantFault(t, "an enter last", from(t, "enter 4, break, enter 4"), 2, api.ErrEnds)
	wantFault(t, "a frame of nought", from(t, "enter 0, break"), 0, api.ErrFrame)
	wantFault(t, "the first jump", from(t, "enter 4, break", 0), 0, api.ErrJumpTo)
	wantFault(t, "the last jump", from(t, "enter 4, nop, break", 1, 2, 3), 2, api.ErrJumpTo)
	wantFault(t, "the greatest jump", from(t, "enter 4, nop, break", 1<<32-1), 0, api.ErrJumpTo)
	im := from(t, "enter 4, break, enter 4, break")
	im.Names = []api.Export{{Name: "a", At: 0}, {Name: "b", At: 2}, {Name: "c", At: 4}}
	wantFault(t, "the last name", im, 2, api.ErrExport)
	im.Names[0].At = 1<<32 - 1
	wantFault(t, "the first name", im, 0, api.ErrExport)
	wantFault(t, "the second procedure", from(t, "enter 4, break, enter 4, pop, break"), 3, api.ErrUnder)
	wantFault(t, "65 words", from(t, "enter 4, "+times(65, "const 1")+"break"), 65, api.ErrOver)
}

package list_test

import (
	"testing"

	"playpen/api"
	"playpen/isa"
	"playpen/list"
)

// The chapter's example 1.
func TestExampleLines(t *testing.T) {
	tryLine(t, api.Instr{Op: api.OpConst, Arg: 4294967295}, "const -1", api.OK)
	tryLine(t, api.Instr{Op: api.OpPop, Arg: 0}, "pop", api.OK)
	tryLine(t, api.Instr{Op: api.OpArg, Arg: 15}, "", api.ErrOperand)
}

func tryLine(t *testing.T, in api.Instr, want string, wantErr api.Errno) {
	t.Helper()
	if line, err := list.Line(in); line != want || err != wantErr {
		t.Errorf("Line(%v): %q, %d, want %q, %d", in, line, err, want, wantErr)
	}
}

// P12.1: operands are told with a sign; those of two bytes are never below 0.
func TestLines(t *testing.T) {
	for _, c := range []struct {
		op   api.Op
		arg  uint32
		want string
	}{
		{api.OpConst, 0, "const 0"},
		{api.OpConst, 1<<31 - 1, "const 2147483647"},
		{api.OpConst, 1 << 31, "const -2147483648"},
		{api.OpLocal, 1<<32 - 1, "local -1"},
		{api.OpLocal, 1<<32 - 100, "local -100"},
		{api.OpEnter, 32768, "enter 32768"},
		{api.OpEnter, 65535, "enter 65535"},
		{api.OpLeave, 65535, "leave 65535"},
		{api.OpArg, 0, "arg 0"},
		{api.OpArg, 14, "arg 14"},
		{api.OpGoto, 16383, "goto 16383"},
		{api.OpGef, 16383, "gef 16383"},
		{api.OpEq, 0, "eq 0"},
		{api.OpCopy, 256, "copy 256"},
		{api.OpNop, 0, "nop"},
		{api.OpBreak, 0, "break"},
		{api.OpCall, 0, "call"},
		{api.OpJump, 0, "jump"},
		{api.OpStore4, 0, "store4"},
		{api.OpCvfi, 0, "cvfi"},
	} {
		tryLine(t, api.Instr{Op: c.op, Arg: c.arg}, c.want, api.OK)
	}
}

// P12.1: every number of an operation and of none, with the operands around every bound.
func TestLineOfEveryOperation(t *testing.T) {
	bounds := []uint32{0, 1, 14, 15, 127, 128, 255, 256, 257, 16383, 16384, 32767, 32768, 65535, 65536, 1<<31 - 1, 1 << 31, 1<<32 - 2, 1<<32 - 1}
	for op := range 256 {
		for _, arg := range append(bounds, scattered(50)...) {
			in := api.Instr{Op: api.Op(op), Arg: arg}
			want, wantErr := lineBy(in)
			tryLine(t, in, want, wantErr)
			if err := isa.Check(in); err != wantErr {
				t.Errorf("Check(%v): %d, but Line's error is %d", in, err, wantErr)
			}
		}
	}
}

// P12.1: an operation that is none is told ahead of an operand that may not be.
func TestLineRefuses(t *testing.T) {
	for _, op := range []api.Op{0, 60, 255} {
		tryLine(t, api.Instr{Op: op}, "", api.ErrOp)
		tryLine(t, api.Instr{Op: op, Arg: 1<<32 - 1}, "", api.ErrOp)
	}
	for _, in := range []api.Instr{{Op: api.OpPop, Arg: 1}, {Op: api.OpEnter, Arg: 65536}, {Op: api.OpGoto, Arg: 16384}, {Op: api.OpCopy, Arg: 257}} {
		tryLine(t, in, "", api.ErrOperand)
	}
}

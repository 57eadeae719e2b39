package verify_test

import (
	"encoding/binary"
	"hash/adler32"
	"math"
	"slices"

	"playpen/api"
)

// The oracle: the words of chapters 7, 8, 13 and 14 of what is well formed, one by one.

// row is what chapter 7's table says of an operation.
type row struct {
	width int
	most  int64 // -1: it is no operation
	takes int
	gives int
	kind  api.OpKind
}

func rowBy(op api.Op) row {
	switch op {
	case api.OpNop:
		return row{0, 0, 0, 0, api.KindPlain}
	case api.OpBreak:
		return row{0, 0, 0, 0, api.KindStop}
	case api.OpEnter:
		return row{2, 65535, 0, 0, api.KindEnter}
	case api.OpLeave:
		return row{2, 65535, 1, 0, api.KindLeave}
	case api.OpCall:
		return row{0, 0, 1, 1, api.KindCall}
	case api.OpGoto:
		return row{2, 16383, 0, 0, api.KindGoto}
	case api.OpJump:
		return row{0, 0, 1, 0, api.KindJump}
	case api.OpConst, api.OpLocal:
		return row{4, math.MaxUint32, 0, 1, api.KindPlain}
	case api.OpPop:
		return row{0, 0, 1, 0, api.KindPlain}
	case api.OpDup:
		return row{0, 0, 1, 2, api.KindPlain}
	case api.OpArg:
		return row{1, 14, 1, 0, api.KindPlain}
	case api.OpLoad1, api.OpLoad2, api.OpLoad4, api.OpSex8, api.OpSex16, api.OpNeg, api.OpNot, api.OpNegf, api.OpCvif, api.OpCvfi:
		return row{0, 0, 1, 1, api.KindPlain}
	case api.OpStore1, api.OpStore2, api.OpStore4:
		return row{0, 0, 2, 0, api.KindPlain}
	case api.OpCopy:
		return row{2, 256, 2, 0, api.KindPlain}
	}
	switch {
	case op == 0 || op > 59:
		return row{most: -1}
	case api.OpEq <= op && op <= api.OpGef:
		return row{2, 16383, 2, 0, api.KindBranch}
	}
	return row{0, 0, 2, 1, api.KindPlain}
}

// verdict is what Take tells beside a Module.
type verdict struct {
	at  int
	err api.Errno
}

// known is what is to be known of an image that is well formed.
type known struct {
	procs  []api.Proc
	depths []int
}

// checkBy tells whether an image may be written down.
func checkBy(im api.Image) api.Errno {
	if len(im.Code) > 16384 {
		return api.ErrInstrs
	}
	for _, one := range im.Code {
		if rowBy(one.Op).most < 0 {
			return api.ErrOp
		}
		if int64(one.Arg) > rowBy(one.Op).most {
			return api.ErrOperand
		}
	}
	if len(im.Jumps) > 16384 {
		return api.ErrTable
	}
	if im.Stack%4 != 0 || im.Stack < 64 || im.Stack > 32768 || int64(len(im.Data))+int64(im.Zero)+int64(im.Stack) > 65536 {
		return api.ErrSize
	}
	if len(im.Names) > 64 {
		return api.ErrNames
	}
	for i, entry := range im.Names {
		if entry.Name == "" || len(entry.Name) > 32 || i > 0 && im.Names[i-1].Name >= entry.Name {
			return api.ErrNames
		}
	}
	return api.OK
}

// boundsBy gives Begin and End of the procedure in which an instruction lies.
func boundsBy(code []api.Instr, at int) (int, int) {
	begin, end := at, at+1
	for code[begin].Op != api.OpEnter {
		begin--
	}
	for end < len(code) && code[end].Op != api.OpEnter {
		end++
	}
	return begin, end
}

// instrBy tells the fault of an instruction by its place in its procedure.
func instrBy(code []api.Instr, at int, begin int, end int) api.Errno {
	one := code[at]
	kind := rowBy(one.Op).kind
	if one.Op == api.OpEnter && (one.Arg == 0 || one.Arg > 4096 || one.Arg&3 != 0) {
		return api.ErrFrame
	}
	if one.Op == api.OpLeave && one.Arg != code[begin].Arg {
		return api.ErrFrame
	}
	if (kind == api.KindGoto || kind == api.KindBranch) && (int(one.Arg) <= begin || int(one.Arg) >= end) {
		return api.ErrTarget
	}
	if at == end-1 && !slices.Contains([]api.Op{api.OpGoto, api.OpJump, api.OpLeave, api.OpBreak}, one.Op) {
		return api.ErrEnds
	}
	return api.OK
}

// findBy tells the procedures, or the fault of chapter 13; the image may be written down.
func findBy(im api.Image) ([]api.Proc, verdict) {
	if len(im.Code) == 0 || im.Code[0].Op != api.OpEnter {
		return nil, verdict{0, api.ErrFirst}
	}
	var list []api.Proc
	begin, end := 0, 0
	for at := range im.Code {
		if at == end {
			begin, end = boundsBy(im.Code, at)
			list = append(list, api.Proc{Begin: uint32(begin), End: uint32(end), Frame: im.Code[begin].Arg})
		}
		if err := instrBy(im.Code, at, begin, end); err != api.OK {
			return nil, verdict{at, err}
		}
	}
	for i, to := range im.Jumps {
		if i > 0 && im.Jumps[i-1] >= to || int64(to) >= int64(len(im.Code)) || im.Code[to].Op == api.OpEnter {
			return nil, verdict{i, api.ErrJumpTo}
		}
	}
	for i, entry := range im.Names {
		if int64(entry.At) >= int64(len(im.Code)) || im.Code[entry.At].Op != api.OpEnter {
			return nil, verdict{i, api.ErrExport}
		}
	}
	return list, verdict{}
}

// nextBy gives the Next of an instruction, rising.
func nextBy(im api.Image, proc api.Proc, at uint32) []uint32 {
	one := im.Code[at]
	var next []uint32
	switch rowBy(one.Op).kind {
	case api.KindPlain, api.KindEnter, api.KindCall:
		next = []uint32{at + 1}
	case api.KindBranch:
		next = []uint32{at + 1, one.Arg}
	case api.KindGoto:
		next = []uint32{one.Arg}
	case api.KindJump:
		for _, to := range im.Jumps {
			if proc.Begin <= to && to < proc.End {
				next = append(next, to)
			}
		}
	}
	slices.Sort(next)
	return slices.Compact(next)
}

// walkBy walks through a procedure as chapter 14 says, lays the depths down and tells its need.
func walkBy(im api.Image, proc api.Proc, depths []int) (int, verdict) {
	need := 0
	depths[proc.Begin] = 0
	waits := []uint32{proc.Begin}
	for len(waits) > 0 {
		at := slices.Min(waits)
		of := rowBy(im.Code[at].Op)
		d := depths[at]
		d2 := d - of.takes + of.gives
		if d < of.takes {
			return 0, verdict{int(at), api.ErrUnder}
		}
		if d2 > 64 {
			return 0, verdict{int(at), api.ErrOver}
		}
		if of.kind == api.KindLeave && d != 1 {
			return 0, verdict{int(at), api.ErrLeave}
		}
		for _, to := range nextBy(im, proc, at) {
			if depths[to] == -1 {
				depths[to] = d2
				waits = append(waits, to)
			} else if depths[to] != d2 {
				return 0, verdict{int(at), api.ErrMeet}
			}
		}
		need = max(need, d, d2)
		waits = slices.DeleteFunc(waits, func(one uint32) bool { return one == at })
	}
	return need, verdict{}
}

// takeBy tells what is to be known of an image, or why Take has to refuse it.
func takeBy(im api.Image) (known, verdict) {
	if err := checkBy(im); err != api.OK {
		return known{}, verdict{0, err}
	}
	list, fault := findBy(im)
	if fault.err != api.OK {
		return known{}, fault
	}
	k := known{list, slices.Repeat([]int{-1}, len(im.Code))}
	for i, proc := range list {
		need, fault := walkBy(im, proc, k.depths)
		if fault.err != api.OK {
			return known{}, fault
		}
		list[i].Need = need
	}
	return k, verdict{}
}

// bytesBy lays down the canonical bytes of an image, with so many bytes that nobody reads ahead of each segment and behind the last one.
func bytesBy(im api.Image, gap int) []byte {
	var code, jumps, names []byte
	for _, one := range im.Code {
		code = append(code, byte(one.Op))
		for i := range rowBy(one.Op).width {
			code = append(code, byte(one.Arg>>(8*i)))
		}
	}
	for _, to := range im.Jumps {
		jumps = binary.LittleEndian.AppendUint32(jumps, to)
	}
	for _, entry := range im.Names {
		names = binary.LittleEndian.AppendUint32(names, entry.At)
		names = append(append(names, byte(len(entry.Name))), entry.Name...)
	}
	b := make([]byte, 64)
	copy(b, "\x50\x45\x4E\x21\x01")
	binary.LittleEndian.PutUint32(b[12:], uint32(len(im.Code)))
	binary.LittleEndian.PutUint32(b[48:], im.Zero)
	binary.LittleEndian.PutUint32(b[52:], im.Stack)
	spare := slices.Repeat([]byte{0xEE}, gap)
	b = append(b, spare...)
	for i, part := range [][]byte{code, jumps, im.Data, names} {
		binary.LittleEndian.PutUint32(b[16+8*i:], uint32(len(b)))
		binary.LittleEndian.PutUint32(b[20+8*i:], uint32(len(part)))
		b = append(append(b, part...), spare...)
	}
	return sealed(b)
}

// sealed gives a copy of a file with its right sum, by the library's own sum.
func sealed(b []byte) []byte {
	b = slices.Clone(b)
	clear(b[8:12])
	binary.LittleEndian.PutUint32(b[8:], adler32.Checksum(b))
	return b
}

// digestBy gives the digest, by the library's own sum.
func digestBy(im api.Image) uint64 {
	b := bytesBy(im, 0)
	return uint64(adler32.Checksum(b))*(1<<32) + uint64(len(b))
}

// bitsBy gives k.
func bitsBy(im api.Image) int {
	k := 8
	for 1<<k < len(im.Data)+int(im.Zero)+int(im.Stack) {
		k++
	}
	return k
}

package step_test

import (
	"math"
	"slices"

	"playpen/api"
)

// book is the machine by the page's words: sums are whole numbers of 64 bits, each byte is masked by itself, and what is known of the code is found by a walk of its own.
type book struct {
	image  api.Image
	size   int64 // 2^k
	procs  []api.Proc
	depths []int // -1: not reached
}

// bookOf gives the book of an image that is well formed.
func bookOf(im api.Image) *book {
	b := &book{image: im, size: 256}
	for b.size < int64(len(im.Data))+int64(im.Zero)+int64(im.Stack) {
		b.size *= 2
	}
	for i, one := range im.Code {
		if one.Op == api.OpEnter {
			b.procs = append(b.procs, api.Proc{Begin: uint32(i), Frame: one.Arg})
		}
		b.procs[len(b.procs)-1].End = uint32(i) + 1
		b.depths = append(b.depths, -1)
	}
	for i := range b.procs {
		b.walk(&b.procs[i])
	}
	return b
}

// rowBy tells how many words an operation takes and gives.
func rowBy(op api.Op) (takes, gives int) {
	switch op {
	case api.OpNop, api.OpBreak, api.OpEnter, api.OpGoto:
		return 0, 0
	case api.OpLeave, api.OpJump, api.OpPop, api.OpArg:
		return 1, 0
	case api.OpConst, api.OpLocal:
		return 0, 1
	case api.OpDup:
		return 1, 2
	case api.OpCall, api.OpLoad1, api.OpLoad2, api.OpLoad4, api.OpSex8, api.OpSex16, api.OpNeg, api.OpNot, api.OpNegf, api.OpCvif, api.OpCvfi:
		return 1, 1
	case api.OpStore1, api.OpStore2, api.OpStore4, api.OpCopy:
		return 2, 0
	}
	if isBranch(op) {
		return 2, 0
	}
	return 2, 1
}

func isBranch(op api.Op) bool { return op >= api.OpEq && op <= api.OpGef }

// walk lays the depths of a procedure down, and its need.
func (b *book) walk(proc *api.Proc) {
	b.depths[proc.Begin] = 0
	waits := []uint32{proc.Begin}
	for len(waits) > 0 {
		at := waits[0]
		waits = waits[1:]
		takes, gives := rowBy(b.image.Code[at].Op)
		behind := b.depths[at] - takes + gives
		proc.Need = max(proc.Need, b.depths[at], behind)
		for _, to := range b.next(*proc, at) {
			if b.depths[to] < 0 {
				b.depths[to] = behind
				waits = append(waits, to)
			}
		}
	}
}

// next gives where control may go from an instruction within its procedure.
func (b *book) next(proc api.Proc, at uint32) []uint32 {
	one := b.image.Code[at]
	switch {
	case one.Op == api.OpLeave || one.Op == api.OpBreak:
		return nil
	case one.Op == api.OpGoto:
		return []uint32{one.Arg}
	case one.Op == api.OpJump:
		return slices.DeleteFunc(slices.Clone(b.image.Jumps), func(to uint32) bool { return to < proc.Begin || to >= proc.End })
	case isBranch(one.Op):
		return []uint32{at + 1, one.Arg}
	}
	return []uint32{at + 1}
}

// procOf gives the procedure of an instruction; there is one.
func (b *book) procOf(at uint32) api.Proc {
	i := slices.IndexFunc(b.procs, func(proc api.Proc) bool { return at < proc.End })
	return b.procs[i]
}

// isReached tells whether a number is the index of a reached instruction.
func (b *book) isReached(at uint32) bool {
	return int64(at) < int64(len(b.depths)) && b.depths[at] >= 0
}

// isReturn tells whether a number is a return point.
func (b *book) isReturn(at uint32) bool {
	return at > 0 && b.isReached(at-1) && b.image.Code[at-1].Op == api.OpCall
}

// isBegin tells whether a procedure begins at a number.
func (b *book) isBegin(at uint32) bool {
	return int64(at) < int64(len(b.image.Code)) && b.image.Code[at].Op == api.OpEnter
}

func (b *book) bottom() int64 { return b.size - int64(b.image.Stack) }

func (b *book) top() int64 { return b.size - 64 }

// fits is DOC.md's 'What it holds', sentence by sentence.
func (b *book) fits(s api.State) bool {
	if int64(len(s.Data)) != b.size {
		return false
	}
	if sp := int64(s.SP); sp%4 != 0 || sp < b.bottom() || sp > b.top() {
		return false
	}
	if s.Life != api.LifeDone && s.Value != 0 || s.Life != api.LifeFault && s.Fault != 0 {
		return false
	}
	switch s.Life {
	case api.LifeIdle:
		return s.PC == 0 && int64(s.SP) == b.top() && len(s.Ops) == 0
	case api.LifeDone:
		return b.isReached(s.PC) && b.image.Code[s.PC].Op == api.OpLeave && len(s.Ops)+b.procOf(s.PC).Need <= 64
	case api.LifeFault:
		if s.Fault < 1 || s.Fault > 8 {
			return false
		}
	case api.LifeRuns:
	default:
		return false
	}
	return b.isReached(s.PC) && len(s.Ops) >= b.depths[s.PC] && len(s.Ops)-b.depths[s.PC]+b.procOf(s.PC).Need <= 64
}

// fresh is the module's fresh state.
func (b *book) fresh() api.State {
	data := make([]byte, b.size)
	for i, x := range b.image.Data {
		data[i] = x
	}
	return api.State{SP: uint32(b.top()), Data: data}
}

// start is DOC.md's Start behind the question whether the state fits.
func (b *book) start(s api.State, at uint32, args []uint32) (api.State, api.Errno) {
	switch {
	case !b.fits(s):
		return api.State{}, api.ErrState
	case !b.isBegin(at):
		return api.State{}, api.ErrEntry
	case len(args) > 15:
		return api.State{}, api.ErrArgs
	}
	next := api.State{Life: api.LifeRuns, PC: at, SP: uint32(b.top()), Data: slices.Clone(s.Data)}
	b.store(next.Data, b.top(), 4, 0xFFFFFFFF)
	for i := range int64(15) {
		arg := uint32(0)
		if i < int64(len(args)) {
			arg = args[i]
		}
		b.store(next.Data, b.top()+4+4*i, 4, arg)
	}
	return next, api.OK
}

// place tells the number of the byte at an address.
func (b *book) place(at int64) int64 { return at % (1 << 32) % b.size }

func (b *book) load(data []byte, at int64, count int) uint32 {
	x := uint32(0)
	for i := range count {
		x += uint32(data[b.place(at+int64(i))]) << (8 * i)
	}
	return x
}

func (b *book) store(data []byte, at int64, count int, x uint32) {
	for i := range count {
		data[b.place(at+int64(i))] = byte(x >> (8 * i))
	}
}

// grantedBy tells the grant of a number.
func grantedBy(grants []api.Grant, number uint32) (api.Grant, bool) {
	i := slices.IndexFunc(grants, func(x api.Grant) bool { return x.Number == number })
	if i < 0 {
		return api.Grant{}, false
	}
	return grants[i], true
}

// grantsBy tells whether grants may be, and unfitBy whether a reply does not fit.
func grantsBy(grants []api.Grant) bool {
	for i, x := range grants {
		if _, twice := grantedBy(grants[:i], x.Number); twice || x.Number >= 1<<31 || x.Args < 0 || x.Args > 15 {
			return false
		}
	}
	return len(grants) <= 64
}

func unfitBy(r api.Reply) bool {
	return len(r.Writes) > 16 || slices.ContainsFunc(r.Writes, func(w api.Write) bool { return len(w.Bytes) > 256 })
}

// step is P18.4 of a module that is not none.
func (b *book) step(grants []api.Grant, s api.State, replies []api.Reply) (api.State, api.Turn, api.Errno) {
	switch {
	case !grantsBy(grants):
		return api.State{}, api.Turn{}, api.ErrGrant
	case !b.fits(s):
		return api.State{}, api.Turn{}, api.ErrState
	case slices.ContainsFunc(replies, unfitBy):
		return api.State{}, api.Turn{}, api.ErrReply
	case s.Life != api.LifeRuns:
		return s, api.Turn{}, api.OK
	}
	next, kind, turn := b.take(grants, clonedState(s), replies)
	if kind != 0 {
		next = clonedState(s)
		next.Life, next.Fault = api.LifeFault, kind
	}
	return next, turn, api.OK
}

// take is DOC.md's 'What an instruction does'; at a fault the state does not count.
func (b *book) take(grants []api.Grant, s api.State, replies []api.Reply) (api.State, api.Fault, api.Turn) {
	one := b.image.Code[s.PC]
	if one.Op == api.OpCall && s.Ops[len(s.Ops)-1] >= 1<<31 {
		return b.ask(grants, s, replies)
	}
	next, kind := b.plain(s, one)
	return next, kind, api.Turn{Took: true}
}

// plain is what an instruction does that is no system call.
func (b *book) plain(s api.State, one api.Instr) (api.State, api.Fault) {
	takes, _ := rowBy(one.Op)
	count := len(s.Ops)
	taken := s.Ops[count-takes:]
	var x, y uint32 // the page's a and b
	if takes > 0 {
		x = taken[0]
	}
	if takes > 1 {
		y = taken[1]
	}
	below, n := s.Ops[:count-takes:count-takes], int64(one.Arg)
	next := s
	next.PC, next.Ops = s.PC+1, below
	switch one.Op {
	case api.OpNop, api.OpPop:
	case api.OpBreak:
		return s, api.FaultBreak
	case api.OpEnter:
		if int64(s.SP)-n < b.bottom() {
			return s, api.FaultStack
		}
		next.SP = uint32(int64(s.SP) - n)
	case api.OpLeave:
		return b.leave(s, n)
	case api.OpCall:
		if !b.isBegin(x) {
			return s, api.FaultCall
		}
		if len(below)+b.procOf(x).Need > 64 {
			return s, api.FaultDeep
		}
		b.store(next.Data, int64(s.SP), 4, s.PC+1)
		next.PC = x
	case api.OpGoto:
		next.PC = one.Arg
	case api.OpJump:
		if !slices.Contains(b.image.Jumps, x) || b.procOf(x) != b.procOf(s.PC) {
			return s, api.FaultJump
		}
		next.PC = x
	case api.OpConst:
		next.Ops = append(below, one.Arg)
	case api.OpLocal:
		next.Ops = append(below, uint32((int64(s.SP)+n)%(1<<32)))
	case api.OpDup:
		next.Ops = append(below, x, x)
	default:
		return b.work(next, one, x, y)
	}
	return next, 0
}

// work is what an instruction does that touches data or makes something of words; the state has what it takes off already, and goes on at the next one.
func (b *book) work(s api.State, one api.Instr, x, y uint32) (api.State, api.Fault) {
	sizes := map[api.Op]int{api.OpLoad1: 1, api.OpLoad2: 2, api.OpLoad4: 4, api.OpStore1: 1, api.OpStore2: 2, api.OpStore4: 4}
	takes, _ := rowBy(one.Op)
	switch {
	case one.Op == api.OpArg:
		b.store(s.Data, int64(s.SP)+4+4*int64(one.Arg), 4, x)
	case one.Op == api.OpCopy:
		was := slices.Clone(s.Data)
		for i := range int64(one.Arg) {
			s.Data[b.place(int64(x)+i)] = was[b.place(int64(y)+i)]
		}
	case sizes[one.Op] > 0 && takes == 1:
		s.Ops = append(s.Ops, b.load(s.Data, int64(x), sizes[one.Op]))
	case sizes[one.Op] > 0:
		b.store(s.Data, int64(x), sizes[one.Op], y)
	case isBranch(one.Op):
		if holdsBy(one.Op, x, y) {
			s.PC = one.Arg
		}
	case takes == 1:
		s.Ops = append(s.Ops, unaryBy(one.Op, x))
	default:
		if y == 0 && (one.Op >= api.OpDivi && one.Op <= api.OpModu) {
			return s, api.FaultDivide
		}
		s.Ops = append(s.Ops, binaryBy(one.Op, x, y))
	}
	return s, 0
}

// leave is DOC.md's 'leave n'.
func (b *book) leave(s api.State, n int64) (api.State, api.Fault) {
	p := int64(s.SP) + n
	if p > b.top() {
		return s, api.FaultStack
	}
	r := b.load(s.Data, p, 4)
	if r == 0xFFFFFFFF {
		last := len(s.Ops) - 1
		s.Life, s.Value, s.SP, s.Ops = api.LifeDone, s.Ops[last], uint32(p), s.Ops[:last]
		return s, 0
	}
	if !b.isReturn(r) || len(s.Ops) < b.depths[r] {
		return s, api.FaultReturn
	}
	if len(s.Ops)-b.depths[r]+b.procOf(r).Need > 64 {
		return s, api.FaultDeep
	}
	s.SP, s.PC = uint32(p), r
	return s, 0
}

// ask is DOC.md's system call.
func (b *book) ask(grants []api.Grant, s api.State, replies []api.Reply) (api.State, api.Fault, api.Turn) {
	last := len(s.Ops) - 1
	number := uint32(-1 - int64(int32(s.Ops[last])))
	x, is := grantedBy(grants, number)
	if !is {
		return s, api.FaultSyscall, api.Turn{Took: true}
	}
	event := api.Event{At: s.PC, Number: number}
	for i := range int64(x.Args) {
		event.Args = append(event.Args, b.load(s.Data, int64(s.SP)+4+4*i, 4))
	}
	if len(replies) == 0 {
		return s, 0, api.Turn{Waits: true, Event: event}
	}
	event.Value = replies[0].Value
	for _, w := range replies[0].Writes {
		for i, x := range w.Bytes {
			s.Data[b.place(int64(w.At)+int64(i))] = x
		}
	}
	s.Ops[last] = replies[0].Value
	s.PC++
	return s, 0, api.Turn{Took: true, Made: true, Event: event}
}

func signed(x uint32) int64 {
	if x >= 1<<31 {
		return int64(x) - 1<<32
	}
	return int64(x)
}

func float(x uint32) float32 { return math.Float32frombits(x) }

// bits gives the word of a float: of what is no number always the same.
func bits(x float32) uint32 {
	if x != x {
		return 0x7FC00000
	}
	return math.Float32bits(x)
}

func unaryBy(op api.Op, a uint32) uint32 {
	switch op {
	case api.OpSex8:
		return uint32((int64(a%256) ^ 128) - 128)
	case api.OpSex16:
		return uint32((int64(a%65536) ^ 32768) - 32768)
	case api.OpNeg:
		return uint32(1<<32 - int64(a))
	case api.OpNot:
		return 0xFFFFFFFF - a
	case api.OpNegf:
		return a ^ 1<<31
	case api.OpCvif:
		return bits(float32(signed(a)))
	}
	// OpCvfi
	x := float64(float(a))
	switch {
	case x != x:
		return 0
	case x >= 1<<31:
		return 1<<31 - 1
	case x <= -1<<31:
		return 1 << 31
	}
	return uint32(int64(math.Trunc(x)))
}

func binaryBy(op api.Op, a, b uint32) uint32 {
	i, j := signed(a), signed(b)
	switch op {
	case api.OpAdd:
		return uint32(i + j)
	case api.OpSub:
		return uint32(i - j)
	case api.OpMul:
		return uint32(i * j)
	case api.OpDivi:
		return uint32(i / j)
	case api.OpModi:
		return uint32(i - i/j*j)
	case api.OpDivu:
		return uint32(uint64(a) / uint64(b))
	case api.OpModu:
		return uint32(uint64(a) - uint64(a)/uint64(b)*uint64(b))
	case api.OpAnd:
		return a & b
	case api.OpOr:
		return a | b
	case api.OpXor:
		return a ^ b
	case api.OpShl:
		return uint32(uint64(a) * (1 << (b % 32)))
	case api.OpShru:
		return uint32(uint64(a) / (1 << (b % 32)))
	case api.OpShri:
		return uint32(int64(math.Floor(float64(i) / float64(int64(1)<<(b%32)))))
	case api.OpAddf:
		return bits(float(a) + float(b))
	case api.OpSubf:
		return bits(float(a) - float(b))
	case api.OpMulf:
		return bits(float(a) * float(b))
	case api.OpDivf:
		return bits(float(a) / float(b))
	}
	panic(op)
}

func holdsBy(op api.Op, a, b uint32) bool {
	i, j := signed(a), signed(b)
	switch op {
	case api.OpEq:
		return a == b
	case api.OpNe:
		return a != b
	case api.OpLti:
		return i < j
	case api.OpLei:
		return i <= j
	case api.OpGti:
		return i > j
	case api.OpGei:
		return i >= j
	case api.OpLtu:
		return a < b
	case api.OpLeu:
		return a <= b
	case api.OpGtu:
		return a > b
	case api.OpGeu:
		return a >= b
	case api.OpEqf:
		return float(a) == float(b)
	case api.OpNef:
		return float(a) != float(b)
	case api.OpLtf:
		return float(a) < float(b)
	case api.OpLef:
		return float(a) <= float(b)
	case api.OpGtf:
		return float(a) > float(b)
	case api.OpGef:
		return float(a) >= float(b)
	}
	panic(op)
}

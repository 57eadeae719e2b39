package thread_test

import (
	"slices"
	"testing"

	"playpen/api"
	"playpen/cell"
	"playpen/fuse"
	"playpen/isa"
)

// dice gives numbers from all over, always the same ones.
type dice struct{ state uint64 }

func newDice(start uint64) *dice { return &dice{state: start*0xBF58476D1CE4E5B9 + 0x9E3779B97F4A7C15} }

func (d *dice) word() uint32 {
	d.state += 0x9E3779B97F4A7C15
	x := d.state
	x = (x ^ x>>30) * 0xBF58476D1CE4E5B9
	x = (x ^ x>>27) * 0x94D049BB133111EB
	return uint32((x ^ x>>31) >> 32)
}

func (d *dice) upTo(most int) int { return int(uint64(d.word()) * uint64(most+1) >> 32) }

// one gives an element of a list.
func one[E any](d *dice, list []E) E { return list[d.upTo(len(list)-1)] }

func binaries() []api.Op {
	return []api.Op{
		api.OpAdd, api.OpSub, api.OpMul, api.OpDivi, api.OpDivu, api.OpModi, api.OpModu, api.OpAnd, api.OpOr, api.OpXor,
		api.OpShl, api.OpShri, api.OpShru, api.OpAddf, api.OpSubf, api.OpMulf, api.OpDivf,
	}
}

func unaries() []api.Op {
	return []api.Op{api.OpSex8, api.OpSex16, api.OpNeg, api.OpNot, api.OpNegf, api.OpCvif, api.OpCvfi}
}

func loads() []api.Op { return []api.Op{api.OpLoad1, api.OpLoad2, api.OpLoad4} }

func stores() []api.Op { return []api.Op{api.OpStore1, api.OpStore2, api.OpStore4} }

func comparisons() []api.Op {
	return []api.Op{
		api.OpEq, api.OpNe, api.OpLti, api.OpLei, api.OpGti, api.OpGei, api.OpLtu, api.OpLeu, api.OpGtu, api.OpGeu,
		api.OpEqf, api.OpNef, api.OpLtf, api.OpLef, api.OpGtf, api.OpGef,
	}
}

// someWord gives a word: an index, a system call, an address near an end, an edge of the numbers, a float, any.
func (d *dice) someWord() uint32 {
	edges := []uint32{0, 0, 1, 2, 31, 32, 33, 0x7FFFFFFF, 0x80000000, 0x80000001, 0xFFFFFFFF, 0x3F800000, 0xBF800000, 0x7F800000, 0xFF800000, 0x7FC00000, 0xFFC00001, 0x7F800001, 0x00000001, 0x80000000, 0x4F000000, 0xCF000000, 0x41200000}
	switch d.upTo(6) {
	case 0:
		return edges[d.upTo(len(edges)-1)]
	case 1:
		return uint32(d.upTo(40))
	case 2:
		return uint32(-1 - d.upTo(5))
	case 3:
		return uint32(256<<d.upTo(2) - 4 + d.upTo(8))
	case 4:
		return uint32(-8 + d.upTo(16))
	case 5:
		return d.word() >> d.upTo(31)
	}
	return d.word()
}

// someConstant gives a row that comes to a word, mostly a short one.
func (d *dice) someConstant() []api.Instr {
	list := []api.Instr{in(api.OpConst, d.someWord())}
	for range one(d, []int{0, 0, 0, 1, 2, 5}) {
		switch d.upTo(3) {
		case 0:
			list = append(list, in(api.OpNop, 0))
		case 1:
			list = append(list, in(one(d, unaries()), 0))
		case 2:
			list = append(list, in(api.OpConst, d.someWord()), in(one(d, binaries()), 0))
		case 3:
			list = append(list, in(api.OpDup, 0), in(one(d, binaries()), 0))
		}
	}
	return list
}

// someLast gives an instruction that may stand behind a constant.
func (d *dice) someLast() api.Instr {
	switch d.upTo(5) {
	case 0:
		return in(one(d, binaries()), 0)
	case 1:
		return in(one(d, comparisons()), 0)
	case 2:
		return in(api.OpArg, uint32(d.upTo(14)))
	case 3:
		return in(one(d, loads()), 0)
	case 4:
		return in(one(d, stores()), 0)
	}
	return in(api.OpCall, 0)
}

// someOther gives an instruction of any operation, with a small operand, if it has one.
func (d *dice) someOther() api.Instr {
	op := api.Op(1 + d.upTo(int(api.LastOp)-1))
	info, _ := isa.Info(op)
	return in(op, min(d.someWord(), info.Most))
}

// somePhrase gives a row that is mostly one of chapter 22's shapes. Targets are laid in later.
func (d *dice) somePhrase() []api.Instr {
	local, load4 := in(api.OpLocal, one(d, []uint32{4, 8, d.someWord()})), in(api.OpLoad4, 0)
	switch d.upTo(11) {
	case 0, 1:
		return append(d.someConstant(), d.someLast())
	case 9, 10:
		return []api.Instr{in(api.OpConst, uint32(-1-d.upTo(5))), in(api.OpCall, 0)}
	case 2:
		return d.someConstant()
	case 3:
		return []api.Instr{local, one(d, []api.Instr{d.someLast(), in(api.OpArg, uint32(d.upTo(14)))})}
	case 4:
		return []api.Instr{local, load4, in(one(d, binaries()), 0)}
	case 5:
		return []api.Instr{local, load4, in(one(d, comparisons()), 0)}
	case 6:
		return slices.Concat([]api.Instr{local, local, load4}, d.someConstant(), []api.Instr{in(one(d, binaries()), 0), in(api.OpStore4, 0)})
	case 7:
		return append(d.someConstant(), in(api.OpPop, 0))
	case 8:
		return slices.Concat(d.someConstant(), d.someConstant(), []api.Instr{in(one(d, comparisons()), 0)})
	}
	if d.upTo(1) == 0 {
		return []api.Instr{local, in(api.OpLocal, d.someWord()), d.someOther()}
	}
	return []api.Instr{d.someOther()}
}

// plan is a procedure in the making, of which the depth of each instruction is laid down ahead of its targets.
type plan struct {
	code    []api.Instr
	depths  []int
	landing int // the depth at which its jumps come down
}

// lay puts an instruction in whose next one has a depth.
func (p *plan) lay(one api.Instr, next int) {
	p.code = append(p.code, one)
	p.depths = append(p.depths, next)
}

// layPhrase puts in as much of a phrase as there are words for and goes on at the next instruction.
func (p *plan) layPhrase(d *dice) {
	for _, next := range d.somePhrase() {
		info, _ := isa.Info(next.Op)
		depth := p.depths[len(p.depths)-1]
		rest := depth - info.Takes + info.Gives
		if depth < info.Takes || rest > 64 {
			return
		}
		switch info.Kind {
		case api.KindPlain, api.KindCall, api.KindBranch:
			p.lay(next, rest)
		default:
			return
		}
	}
}

// layEnd puts in one that does not go on at the next instruction, which has any depth.
func (p *plan) layEnd(d *dice) {
	depth := p.depths[len(p.depths)-1]
	next := d.upTo(3)
	switch choice := d.upTo(3); {
	case choice <= 1 && depth == 1:
		p.lay(in(api.OpLeave, p.code[0].Arg), next)
	case choice <= 2 && depth == p.landing+1:
		p.lay(in(api.OpJump, 0), next)
	case choice <= 2:
		p.lay(in(api.OpGoto, 0), next)
	default:
		p.lay(in(api.OpBreak, 0), next)
	}
}

// like gives one of the instructions inside the procedure that have a depth, if there is one.
func (p *plan) like(d *dice, depth int) (int, bool) {
	var list []int
	for i := 1; i < len(p.code); i++ {
		if p.depths[i] == depth {
			list = append(list, i)
		}
	}
	if len(list) == 0 {
		return 0, false
	}
	return one(d, list), true
}

// aim lays the targets in. What finds none becomes a store, which takes as many words as a comparison, or a break.
func (p *plan) aim(d *dice, begin int) {
	for i, next := range p.code {
		info, _ := isa.Info(next.Op)
		if info.Kind != api.KindBranch && info.Kind != api.KindGoto {
			continue
		}
		if to, is := p.like(d, p.depths[i]-info.Takes); is {
			p.code[i].Arg = uint32(begin + to)
		} else if info.Kind == api.KindBranch {
			p.code[i] = in(api.OpStore1, 0)
		} else {
			p.code[i] = in(api.OpBreak, 0)
		}
	}
}

// someProc puts a procedure without a fault behind the code, of up to so many phrases, and some jumps.
func someProc(d *dice, im *api.Image, most int) {
	begin := len(im.Code)
	p := &plan{depths: []int{0}, landing: d.upTo(2)}
	p.lay(in(api.OpEnter, uint32(4*(1+d.upTo(7)))), 0)
	for range d.upTo(most - 1) {
		if d.upTo(15) == 0 {
			p.layEnd(d)
		} else {
			p.layPhrase(d)
		}
	}
	p.layEnd(d)
	p.aim(d, begin)
	jumps := slices.ContainsFunc(p.code, func(one api.Instr) bool { return one.Op == api.OpJump })
	for i := range p.code {
		if i > 0 && d.upTo(7) == 0 && (!jumps || p.depths[i] == p.landing) {
			im.Jumps = append(im.Jumps, uint32(begin+i))
		}
	}
	im.Code = append(im.Code, p.code...)
}

// someModule gives a scattered module, of procedures of up to so many phrases.
func (d *dice) someModule(t testing.TB, most int) made {
	t.Helper()
	im := api.Image{Stack: one(d, []uint32{64, 96, 128, 128, uint32(64 + 4*d.upTo(200)), 256, 4096})}
	if d.upTo(3) == 0 {
		im.Zero = uint32(d.upTo(1000))
	}
	var begins []uint32
	for range 1 + d.upTo(3) {
		begins = append(begins, uint32(len(im.Code)))
		someProc(d, &im, most)
	}
	// A third of the calls of what is known are of procedures.
	for i, next := range im.Code[1:] {
		if next.Op == api.OpCall && im.Code[i].Op == api.OpConst && d.upTo(2) == 0 {
			im.Code[i].Arg = one(d, begins)
		}
	}
	for range d.upTo(1) * d.upTo(40) {
		im.Data = append(im.Data, byte(d.word()))
	}
	return mustTake(t, im)
}

// someBegin gives where one of a module's procedures begins.
func (d *dice) someBegin(m made) uint32 {
	all := m.Procs()
	return all[d.upTo(len(all)-1)].Begin
}

// someWordFor gives a word that an instruction of a module may be about to take: where a procedure begins, where a jump may go, any.
func (d *dice) someWordFor(m made) uint32 {
	switch d.upTo(5) {
	case 0:
		return d.someBegin(m)
	case 1:
		if count := len(m.image.Jumps); count > 0 {
			return m.image.Jumps[d.upTo(count-1)]
		}
	case 2:
		return uint32(d.upTo(len(m.image.Code) + 1))
	}
	return d.someWord()
}

// someReturn gives a word at which a leave may find itself: the mark, a return point, any.
func (d *dice) someReturn(m made) uint32 {
	var points []uint32
	for at := range uint32(len(m.image.Code) + 1) {
		if m.Back(at) {
			points = append(points, at)
		}
	}
	switch choice := d.upTo(5); {
	case choice == 0:
		return 0xFFFFFFFF
	case choice <= 3 && len(points) > 0:
		return points[d.upTo(len(points)-1)]
	case choice == 4:
		return uint32(d.upTo(len(m.image.Code) + 2))
	}
	return d.someWord()
}

// edgy gives a number from least to most, often one of the two, or a neighbour.
func (d *dice) edgy(least, most int) int {
	switch d.upTo(5) {
	case 0:
		return least
	case 1:
		return most
	case 2:
		return min(least+1, most)
	case 3:
		return max(most-1, least)
	}
	return least + d.upTo(most-least)
}

// someSP gives an SP of a module.
func (d *dice) someSP(m made) uint32 {
	return m.bottom() + 4*uint32(d.edgy(0, int(m.top()-m.bottom())/4))
}

// someData gives data of a module, with words that are of use.
func (d *dice) someData(m made) []byte {
	data := append(slices.Clone(m.image.Data), make([]byte, int(m.size())-len(m.image.Data))...)
	for range d.upTo(1) * 100 {
		data[d.upTo(len(data)-1)] = byte(d.word())
	}
	for range d.upTo(20) {
		put(data, uint32(4*d.upTo(len(data)/4-1)), d.someWordFor(m))
	}
	return data
}

// reached gives the instructions of a module that are reached, and those of them that are leaves.
func (m made) reached() (all, leaves []uint32) {
	for at := range uint32(m.Count()) {
		if m.Depth(at) < 0 {
			continue
		}
		all = append(all, at)
		if m.image.Code[at].Op == api.OpLeave {
			leaves = append(leaves, at)
		}
	}
	return all, leaves
}

// someState gives a state of a module that fits.
func (d *dice) someState(m made) api.State {
	reached, leaves := m.reached()
	pc := one(d, reached)
	// Constants are many, and little comes of them.
	if m.image.Code[pc].Op == api.OpConst {
		pc = one(d, reached)
	}
	switch choice := d.upTo(40); {
	case choice == 0:
		return api.State{SP: m.top(), Data: d.someData(m)}
	case choice == 1 && len(leaves) > 0:
		s := d.stateAt(m, one(d, leaves))
		s.Life, s.Value, s.Ops = api.LifeDone, d.someWord(), s.Ops[m.Depth(s.PC):]
		return s
	case choice == 2:
		s := d.stateAt(m, pc)
		s.Life, s.Fault = api.LifeFault, api.Fault(1+d.upTo(7))
		return s
	}
	return d.stateAt(m, pc)
}

// stateAt gives a state of a module that fits and runs at an instruction that is reached.
func (d *dice) stateAt(m made, pc uint32) api.State {
	s := api.State{Life: api.LifeRuns, PC: pc, SP: d.someSP(m), Data: d.someData(m)}
	proc, _ := m.ProcOf(pc)
	least := m.Depth(pc)
	for range d.edgy(least, least+64-proc.Need) {
		s.Ops = append(s.Ops, d.someWordFor(m))
	}
	// Two words that are the same are what a comparison seldom meets by chance.
	if last := len(s.Ops) - 1; last > 0 && d.upTo(5) == 0 {
		s.Ops[last] = s.Ops[last-1]
	}
	if at := s.SP + proc.Frame; at <= m.top() {
		put(s.Data, at, d.someReturn(m))
	}
	return s
}

// someGrants gives grants of the numbers that someWord asks for most, and others.
func (d *dice) someGrants() []api.Grant {
	var list []api.Grant
	for number := range uint32(6) {
		if d.upTo(2) > 0 {
			list = append(list, grant(number, d.upTo(15)))
		}
	}
	if d.upTo(1) == 0 {
		list = append(list, grant(1<<31-1, d.upTo(2)))
	}
	for i := range list {
		j := d.upTo(i)
		list[i], list[j] = list[j], list[i]
	}
	return list
}

// someReplies gives up to so many replies; their writes lie over one another, and go round the ends.
func (d *dice) someReplies(most int) []api.Reply {
	var list []api.Reply
	for range d.upTo(most) {
		r := reply(d.someWord())
		for range d.upTo(1) * d.upTo([]int{3, 16}[d.upTo(1)]) {
			w := api.Write{At: d.someWord()}
			for range d.upTo([]int{4, 20, 256}[d.upTo(2)]) {
				w.Bytes = append(w.Bytes, byte(d.word()))
			}
			r.Writes = append(r.Writes, w)
		}
		list = append(list, r)
	}
	return list
}

// someArgs gives arguments of a Start.
func (d *dice) someArgs() []uint32 {
	args := make([]uint32, d.upTo(15))
	for i := range args {
		args[i] = d.someWord()
	}
	return args
}

// turnPart makes one part of a state another one.
func turnPart(d *dice, m made, s *api.State) {
	switch d.upTo(6) {
	case 0:
		s.Life = api.Life(d.upTo(5))
	case 1:
		s.PC = []uint32{uint32(d.upTo(len(m.image.Code) + 1)), s.PC + 1, s.PC - 1, d.word()}[d.upTo(3)]
	case 2:
		s.SP = []uint32{d.someSP(m), s.SP + 4, s.SP - 4, s.SP + 1, d.word()}[d.upTo(4)]
	case 3:
		s.Ops = many(d.edgy(0, 65))
	case 4:
		s.Data = make([]byte, []int{len(s.Data), len(s.Data) - 1, len(s.Data) + 1, 2 * len(s.Data)}[d.upTo(3)])
	case 5:
		s.Value = uint32(d.upTo(2))
	case 6:
		s.Fault = api.Fault(d.upTo(10))
	}
}

// someCover gives threaded code that stands for a module, of whatever things fit: each is the longest one of the stretch that is just its own.
func (d *dice) someCover(t testing.TB, m made) api.Threaded {
	t.Helper()
	im := m.image
	leads, err := cell.Leaders(m.Module)
	wantOK(t, err)
	leads = append(leads, uint32(len(im.Code)))
	var list []api.Fused
	for at := uint32(0); int(at) < len(im.Code); {
		end := leads[slices.IndexFunc(leads, func(x uint32) bool { return x > at })]
		if d.upTo(2) > 0 {
			end = at + 1 + uint32(d.upTo(min(int(end-at)-1, 20)))
		}
		next, err := fuse.Longest(im.Code, at, end)
		if err != api.OK {
			t.Fatalf("Longest(%v, %d, %d): %d", im.Code, at, end, err)
		}
		list = append(list, next)
		at += next.Len
	}
	return numbered(list, len(im.Code))
}

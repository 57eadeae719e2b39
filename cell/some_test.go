package cell_test

import (
	"slices"
	"testing"

	"playpen/api"
	"playpen/fuse"
	"playpen/isa"
	"playpen/verify"
)

// dice gives numbers from all over, always the same ones.
type dice struct{ state uint64 }

func newDice(start uint64) *dice { return &dice{state: start*0xBF58476D1CE4E5B9 + 0x9E3779B97F4A7C15} }

func (d *dice) word() uint32 {
	d.state += 0x9E3779B97F4A7C15
	x := d.state
	x = (x ^ x>>30) * 0xBF58476D1CE4E5B9
	x = (x ^ x>>27) * 0x94D049BB133111EB
	return uint32((x ^ x>>31) >> 32)
}

func (d *dice) upTo(most int) int { return int(uint64(d.word()) * uint64(most+1) >> 32) }

// one gives an element of a list.
func one[E any](d *dice, list []E) E { return list[d.upTo(len(list)-1)] }

func binaries() []api.Op {
	return []api.Op{
		api.OpAdd, api.OpSub, api.OpMul, api.OpDivi, api.OpDivu, api.OpModi, api.OpModu, api.OpAnd, api.OpOr, api.OpXor,
		api.OpShl, api.OpShri, api.OpShru, api.OpAddf, api.OpSubf, api.OpMulf, api.OpDivf,
	}
}

func unaries() []api.Op {
	return []api.Op{api.OpSex8, api.OpSex16, api.OpNeg, api.OpNot, api.OpNegf, api.OpCvif, api.OpCvfi}
}

func loads() []api.Op { return []api.Op{api.OpLoad1, api.OpLoad2, api.OpLoad4} }

func stores() []api.Op { return []api.Op{api.OpStore1, api.OpStore2, api.OpStore4} }

// someWord gives a word: a small one, an edge, any.
func (d *dice) someWord() uint32 {
	switch d.upTo(3) {
	case 0, 1:
		return uint32(d.upTo(5))
	case 2:
		return one(d, []uint32{31, 255, 0x7FFFFFFF, 0x80000000, 0xFFFFFFFE, 0xFFFFFFFF, 0x3F800000, 0x7F800000, 0x7FC00000})
	}
	return d.word()
}

// someConstant gives a row that comes to a word, mostly a short one.
func (d *dice) someConstant() []api.Instr {
	list := []api.Instr{in(api.OpConst, d.someWord())}
	for range one(d, []int{0, 0, 0, 1, 2, 5}) {
		switch d.upTo(3) {
		case 0:
			list = append(list, in(api.OpNop, 0))
		case 1:
			list = append(list, in(one(d, unaries()), 0))
		case 2:
			list = append(list, in(api.OpConst, d.someWord()), in(one(d, binaries()), 0))
		case 3:
			list = append(list, in(api.OpDup, 0), in(one(d, binaries()), 0))
		}
	}
	return list
}

// someLast gives an instruction that may stand behind a constant.
func (d *dice) someLast() api.Instr {
	switch d.upTo(5) {
	case 0:
		return in(one(d, binaries()), 0)
	case 1:
		return in(one(d, comparisons()), 0)
	case 2:
		return in(api.OpArg, uint32(d.upTo(14)))
	case 3:
		return in(one(d, loads()), 0)
	case 4:
		return in(one(d, stores()), 0)
	}
	return in(api.OpCall, 0)
}

// someOther gives an instruction of any operation, with a small operand, if it has one.
func (d *dice) someOther() api.Instr {
	op := api.Op(1 + d.upTo(int(api.LastOp)-1))
	info, _ := isa.Info(op)
	return in(op, min(d.someWord(), info.Most))
}

// somePhrase gives a row that is mostly one of chapter 22's shapes. Targets are laid in later.
func (d *dice) somePhrase() []api.Instr {
	local, load4 := in(api.OpLocal, one(d, []uint32{4, 8, d.someWord()})), in(api.OpLoad4, 0)
	switch d.upTo(9) {
	case 0, 1:
		return append(d.someConstant(), d.someLast())
	case 2:
		return d.someConstant()
	case 3:
		return []api.Instr{local, one(d, []api.Instr{d.someLast(), in(api.OpArg, uint32(d.upTo(14)))})}
	case 4:
		return []api.Instr{local, load4, in(one(d, binaries()), 0)}
	case 5:
		return []api.Instr{local, load4, in(one(d, comparisons()), 0)}
	case 6:
		return slices.Concat([]api.Instr{local, local, load4}, d.someConstant(), []api.Instr{in(one(d, binaries()), 0), in(api.OpStore4, 0)})
	case 7:
		return append(d.someConstant(), in(api.OpPop, 0))
	case 8:
		return slices.Concat(d.someConstant(), d.someConstant(), []api.Instr{in(one(d, comparisons()), 0)})
	}
	return []api.Instr{d.someOther()}
}

// plan is a procedure in the making, of which the depth of each instruction is laid down ahead of its targets.
type plan struct {
	code    []api.Instr
	depths  []int
	landing int // the depth at which its jumps come down
}

// lay puts an instruction in whose next one has a depth.
func (p *plan) lay(one api.Instr, next int) {
	p.code = append(p.code, one)
	p.depths = append(p.depths, next)
}

// layPhrase puts in as much of a phrase as there are words for and goes on at the next instruction.
func (p *plan) layPhrase(d *dice) {
	for _, next := range d.somePhrase() {
		info, _ := isa.Info(next.Op)
		depth := p.depths[len(p.depths)-1]
		rest := depth - info.Takes + info.Gives
		if depth < info.Takes || rest > 64 {
			return
		}
		switch info.Kind {
		case api.KindPlain, api.KindCall, api.KindBranch:
			p.lay(next, rest)
		default:
			return
		}
	}
}

// layEnd puts in one that does not go on at the next instruction, which has any depth.
func (p *plan) layEnd(d *dice) {
	depth := p.depths[len(p.depths)-1]
	next := d.upTo(3)
	switch choice := d.upTo(3); {
	case choice <= 1 && depth == 1:
		p.lay(in(api.OpLeave, p.code[0].Arg), next)
	case choice <= 2 && depth == p.landing+1:
		p.lay(in(api.OpJump, 0), next)
	case choice <= 2:
		p.lay(in(api.OpGoto, 0), next)
	default:
		p.lay(in(api.OpBreak, 0), next)
	}
}

// like gives one of the instructions inside the procedure that have a depth, if there is one.
func (p *plan) like(d *dice, depth int) (int, bool) {
	var list []int
	for i := 1; i < len(p.code); i++ {
		if p.depths[i] == depth {
			list = append(list, i)
		}
	}
	if len(list) == 0 {
		return 0, false
	}
	return one(d, list), true
}

// aim lays the targets in. What finds none becomes a store, which takes as many words as a comparison, or a break.
func (p *plan) aim(d *dice, begin int) {
	for i, next := range p.code {
		info, _ := isa.Info(next.Op)
		if info.Kind != api.KindBranch && info.Kind != api.KindGoto {
			continue
		}
		if to, is := p.like(d, p.depths[i]-info.Takes); is {
			p.code[i].Arg = uint32(begin + to)
		} else if info.Kind == api.KindBranch {
			p.code[i] = in(api.OpStore1, 0)
		} else {
			p.code[i] = in(api.OpBreak, 0)
		}
	}
}

// someProc puts a procedure without a fault behind the code, of up to so many phrases, and some jumps.
func someProc(d *dice, im *api.Image, most int) {
	begin := len(im.Code)
	p := &plan{depths: []int{0}, landing: d.upTo(2)}
	p.lay(in(api.OpEnter, uint32(4*(1+d.upTo(7)))), 0)
	for range d.upTo(most - 1) {
		if d.upTo(15) == 0 {
			p.layEnd(d)
		} else {
			p.layPhrase(d)
		}
	}
	p.layEnd(d)
	p.aim(d, begin)
	jumps := slices.ContainsFunc(p.code, func(one api.Instr) bool { return one.Op == api.OpJump })
	for i := range p.code {
		if i > 0 && d.upTo(19) == 0 && (!jumps || p.depths[i] == p.landing) {
			im.Jumps = append(im.Jumps, uint32(begin+i))
		}
	}
	im.Code = append(im.Code, p.code...)
}

// someModule gives a scattered module, of procedures of up to so many phrases.
func (d *dice) someModule(t testing.TB, most int) *verify.Module {
	t.Helper()
	im := api.Image{Stack: uint32(64 + 4*d.upTo(100)), Data: []byte("some"), Zero: uint32(d.upTo(200))}
	for range 1 + d.upTo(3) {
		someProc(d, &im, most)
	}
	return mustTake(t, im)
}

// someCover gives threaded code that stands for a module, of whatever things fit: each is the longest one of the stretch that is just its own.
func (d *dice) someCover(t testing.TB, im api.Image) api.Threaded {
	t.Helper()
	leads := leadersBy(im)
	var list []api.Fused
	for at := uint32(0); int(at) < len(im.Code); {
		end := nextEnd(im, leads, at)
		if d.upTo(2) > 0 {
			end = at + 1 + uint32(d.upTo(min(int(end-at)-1, 20)))
		}
		next, err := fuse.Longest(im.Code, at, end)
		if err != api.OK {
			t.Fatalf("Longest(%v, %d, %d): %d", short(im.Code), at, end, err)
		}
		list = append(list, next)
		at += next.Len
	}
	return numbered(list, len(im.Code))
}

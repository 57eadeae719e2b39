package fuse_test

import (
	"slices"
	"testing"

	"playpen/api"
	"playpen/isa"
	"playpen/verify"
)

// dice gives numbers from all over, always the same ones.
type dice struct{ state uint64 }

func newDice(start uint64) *dice { return &dice{state: start*0xBF58476D1CE4E5B9 + 0x9E3779B97F4A7C15} }

func (d *dice) word() uint32 {
	d.state += 0x9E3779B97F4A7C15
	x := d.state
	x = (x ^ x>>30) * 0xBF58476D1CE4E5B9
	x = (x ^ x>>27) * 0x94D049BB133111EB
	return uint32((x ^ x>>31) >> 32)
}

func (d *dice) upTo(most int) int { return int(uint64(d.word()) * uint64(most+1) >> 32) }

// oneOf gives an instruction of one of some operations, without an operand.
func (d *dice) oneOf(ops []api.Op) api.Instr { return in(ops[d.upTo(len(ops)-1)], 0) }

// someWord gives a word: a small one, an edge, any.
func (d *dice) someWord() uint32 {
	switch d.upTo(3) {
	case 0:
		return uint32(d.upTo(3))
	case 1:
		return uint32(-d.upTo(3))
	case 2:
		return edges()[d.upTo(len(edges())-1)]
	}
	return d.word()
}

// someConstant gives a row that comes to a word, mostly a short one.
func (d *dice) someConstant() []api.Instr {
	list := []api.Instr{in(api.OpConst, d.someWord())}
	for range []int{0, 0, 0, 1, 2, 5}[d.upTo(5)] {
		switch d.upTo(4) {
		case 0:
			list = append(list, in(api.OpNop, 0))
		case 1:
			list = append(list, d.oneOf(unaries()))
		case 2:
			list = append(list, in(api.OpConst, d.someWord()), d.oneOf(binaries()))
		case 3:
			list = append(list, in(api.OpDup, 0), d.oneOf(binaries()))
		case 4:
			list = slices.Concat([]api.Instr{in(api.OpNop, 0), in(api.OpConst, d.someWord()), in(api.OpPop, 0)}, list)
		}
	}
	return list
}

// someOther gives an instruction of any operation, with an operand that it may have, or a bad one.
func (d *dice) someOther() api.Instr {
	if d.upTo(3) == 0 {
		return in(api.Op(d.word()), d.someWord())
	}
	op := api.Op(1 + d.upTo(58))
	return in(op, min(d.someWord(), mostBy(op)))
}

// someLast gives an instruction that may stand behind a constant.
func (d *dice) someLast() api.Instr {
	switch d.upTo(5) {
	case 0:
		return d.oneOf(binaries())
	case 1:
		return in(d.oneOf(comparisons()).Op, uint32(d.upTo(40)))
	case 2:
		return in(api.OpArg, uint32(d.upTo(14)))
	case 3:
		return d.oneOf(loads())
	case 4:
		return d.oneOf(stores())
	}
	return in(api.OpCall, 0)
}

// somePhrase gives a row that is mostly one of the shapes.
func (d *dice) somePhrase() []api.Instr {
	local, load4 := in(api.OpLocal, []uint32{4, 8, d.someWord()}[d.upTo(2)]), in(api.OpLoad4, 0)
	compares := in(d.oneOf(comparisons()).Op, uint32(d.upTo(40)))
	switch d.upTo(9) {
	case 0, 1:
		return append(d.someConstant(), d.someLast())
	case 2:
		return d.someConstant()
	case 3:
		return []api.Instr{local, []api.Instr{d.someLast(), in(api.OpArg, uint32(d.upTo(14)))}[d.upTo(1)]}
	case 4:
		return []api.Instr{local, load4, d.oneOf(binaries())}
	case 5:
		return []api.Instr{local, load4, compares}
	case 6:
		return slices.Concat([]api.Instr{local, local, load4}, d.someConstant(), []api.Instr{d.oneOf(binaries()), in(api.OpStore4, 0)})
	case 7:
		return append(d.someConstant(), in(api.OpPop, 0))
	case 8:
		return slices.Concat(d.someConstant(), d.someConstant(), []api.Instr{compares})
	}
	return []api.Instr{d.someOther()}
}

// someRow gives code of so many instructions, most of them in rows that shapes fit.
func (d *dice) someRow(count int) []api.Instr {
	var code []api.Instr
	for len(code) < count {
		code = append(code, d.somePhrase()...)
	}
	code = code[:count]
	if d.upTo(1) == 0 {
		code[d.upTo(count-1)] = d.someOther()
	}
	return code
}

// plan is a procedure in the making, of which the depth of each instruction is laid down ahead of its targets.
type plan struct {
	code    []api.Instr
	depths  []int
	landing int // the depth at which its jumps come down
}

// lay puts an instruction in whose next one has a depth.
func (p *plan) lay(one api.Instr, next int) {
	p.code = append(p.code, one)
	p.depths = append(p.depths, next)
}

// layPhrase puts in as much of a phrase as there are words for and goes on at the next instruction.
func (p *plan) layPhrase(d *dice) {
	for _, next := range d.somePhrase() {
		info, _ := isa.Info(next.Op)
		depth := p.depths[len(p.depths)-1]
		rest := depth - info.Takes + info.Gives
		if isa.Check(next) != api.OK || depth < info.Takes || rest > 64 {
			return
		}
		switch info.Kind {
		case api.KindPlain, api.KindCall, api.KindBranch:
			p.lay(next, rest)
		default:
			return
		}
	}
}

// layEnd puts in one that does not go on at the next instruction, which has any depth.
func (p *plan) layEnd(d *dice) {
	depth := p.depths[len(p.depths)-1]
	next := d.upTo(3)
	switch choice := d.upTo(3); {
	case choice <= 1 && depth == 1:
		p.lay(in(api.OpLeave, p.code[0].Arg), next)
	case choice <= 2 && depth == p.landing+1:
		p.lay(in(api.OpJump, 0), next)
	case choice <= 2:
		p.lay(in(api.OpGoto, 0), next)
	default:
		p.lay(in(api.OpBreak, 0), next)
	}
}

// like gives one of the instructions inside the procedure that have a depth, if there is one.
func (p *plan) like(d *dice, depth int) (int, bool) {
	var list []int
	for i := 1; i < len(p.code); i++ {
		if p.depths[i] == depth {
			list = append(list, i)
		}
	}
	if len(list) == 0 {
		return 0, false
	}
	return list[d.upTo(len(list)-1)], true
}

// aim lays the targets in. What finds none becomes a store, which takes as many words as a comparison, or a break.
func (p *plan) aim(d *dice, begin int) {
	for i, one := range p.code {
		info, _ := isa.Info(one.Op)
		if info.Kind != api.KindBranch && info.Kind != api.KindGoto {
			continue
		}
		if to, is := p.like(d, p.depths[i]-info.Takes); is {
			p.code[i].Arg = uint32(begin + to)
		} else if info.Kind == api.KindBranch {
			p.code[i] = in(api.OpStore1, 0)
		} else {
			p.code[i] = in(api.OpBreak, 0)
		}
	}
}

// someProc puts a procedure without a fault behind the code, of up to so many phrases, and some jumps.
func someProc(d *dice, im *api.Image, most int) {
	begin := len(im.Code)
	p := &plan{depths: []int{0}, landing: d.upTo(2)}
	p.lay(in(api.OpEnter, uint32(4*(1+d.upTo(7)))), 0)
	for range d.upTo(most - 1) {
		if d.upTo(15) == 0 {
			p.layEnd(d)
		} else {
			p.layPhrase(d)
		}
	}
	p.layEnd(d)
	p.aim(d, begin)
	jumps := slices.ContainsFunc(p.code, func(one api.Instr) bool { return one.Op == api.OpJump })
	for i := range p.code {
		if i > 0 && d.upTo(19) == 0 && (!jumps || p.depths[i] == p.landing) {
			im.Jumps = append(im.Jumps, uint32(begin+i))
		}
	}
	im.Code = append(im.Code, p.code...)
}

// someModule gives a scattered module, of procedures of up to so many phrases.
func (d *dice) someModule(t testing.TB, most int) *verify.Module {
	t.Helper()
	im := api.Image{Stack: uint32(64 + 4*d.upTo(100)), Data: []byte("some"), Zero: uint32(d.upTo(200))}
	for range 1 + d.upTo(3) {
		someProc(d, &im, most)
	}
	return mustTake(t, im)
}

// someState gives a state of a module that fits, runs and stands at an instruction that is reached.
func (d *dice) someState(m *verify.Module, at uint32) api.State {
	size := uint32(1) << m.Bits()
	s := api.State{Life: api.LifeRuns, PC: at, SP: size - 64 - 4*uint32(d.upTo(int(m.Image().Stack-64)/4)), Data: make([]byte, size)}
	for i := range s.Data {
		s.Data[i] = byte(d.word())
	}
	proc, _ := m.ProcOf(at)
	spare := []int{0, 64 - proc.Need, d.upTo(64 - proc.Need)}[d.upTo(2)]
	for range m.Depth(at) + spare {
		s.Ops = append(s.Ops, d.someWord())
	}
	return s
}

// someGrants gives grants of the numbers that a call of a small word below nought asks for.
func (d *dice) someGrants() []api.Grant {
	var list []api.Grant
	for number := range uint32(4) {
		if d.upTo(1) > 0 {
			list = append(list, api.Grant{Number: number, Args: d.upTo(15)})
		}
	}
	return list
}

// someReplies gives up to two replies.
func (d *dice) someReplies() []api.Reply {
	var list []api.Reply
	for range d.upTo(2) {
		list = append(list, api.Reply{Value: d.someWord(), Writes: []api.Write{{At: d.someWord(), Bytes: []byte{1, 2, 3}}}})
	}
	return list
}

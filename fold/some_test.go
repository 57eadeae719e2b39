package fold_test

import (
	"slices"
	"testing"

	"playpen/api"
	"playpen/isa"
	"playpen/verify"
)

// dice gives numbers from all over, always the same ones.
type dice struct{ state uint64 }

func newDice(start uint64) *dice { return &dice{state: start*0xBF58476D1CE4E5B9 + 0x9E3779B97F4A7C15} }

func (d *dice) word() uint32 {
	d.state += 0x9E3779B97F4A7C15
	x := d.state
	x = (x ^ x>>30) * 0xBF58476D1CE4E5B9
	x = (x ^ x>>27) * 0x94D049BB133111EB
	return uint32((x ^ x>>31) >> 32)
}

func (d *dice) upTo(most int) int { return int(uint64(d.word()) * uint64(most+1) >> 32) }

// someWord gives a word: a small one, an edge, any.
func (d *dice) someWord() uint32 {
	switch d.upTo(3) {
	case 0:
		return uint32(d.upTo(3))
	case 1:
		return uint32(-d.upTo(3))
	case 2:
		return edges()[d.upTo(len(edges())-1)]
	}
	return d.word()
}

// someKnown gives a known instruction other than a comparison, that takes no more words than there are.
func (d *dice) someKnown(depth int) api.Instr {
	switch choice := d.upTo(11); {
	case choice <= 3 || depth == 0 && choice > 4:
		return in(api.OpConst, d.someWord())
	case choice == 4:
		return in(api.OpNop, 0)
	case choice == 5:
		return in(api.OpDup, 0)
	case choice == 6:
		return in(api.OpPop, 0)
	case choice <= 8 || depth == 1:
		return in(unaries()[d.upTo(len(unaries())-1)], 0)
	}
	return in(binaries()[d.upTo(len(binaries())-1)], 0)
}

// someOther gives an instruction of any operation, with an operand that it may have, or a bad one.
func (d *dice) someOther() api.Instr {
	if d.upTo(3) == 0 {
		return in(api.Op(d.word()), d.someWord())
	}
	op := api.Op(1 + d.upTo(58))
	return in(op, min(d.someWord(), mostBy(op)))
}

// someRow gives code of so many instructions, most of them known; a comparison comes often where there are just two words.
func (d *dice) someRow(count int) []api.Instr {
	var code []api.Instr
	depth := 0
	for range count {
		next := d.someKnown(depth)
		if choice := d.upTo(30); choice == 0 {
			next = d.someOther()
		} else if choice <= 9 && depth == 2 || choice == 1 {
			next = in(comparisons()[d.upTo(len(comparisons())-1)], uint32(d.upTo(40)))
		}
		info, _ := isa.Info(next.Op)
		depth = max(0, depth-info.Takes+info.Gives)
		code = append(code, next)
	}
	return code
}

// plan is a procedure in the making, of which the depth of each instruction is laid down ahead of its targets.
type plan struct {
	code    []api.Instr
	depths  []int
	landing int // the depth at which its jumps come down
}

// lay puts an instruction in whose next one has a depth.
func (p *plan) lay(one api.Instr, next int) {
	p.code = append(p.code, one)
	p.depths = append(p.depths, next)
}

// layPlain puts in one that goes on at the next instruction: mostly a known one.
func (p *plan) layPlain(d *dice) {
	depth := p.depths[len(p.depths)-1]
	for {
		next := d.someKnown(depth)
		if choice := d.upTo(12); choice <= 1 {
			next = d.someOther()
		} else if choice <= 4 {
			next = in(comparisons()[d.upTo(len(comparisons())-1)], 0)
		}
		info, _ := isa.Info(next.Op)
		rest := depth - info.Takes + info.Gives
		if isa.Check(next) != api.OK || depth < info.Takes || rest > 64 {
			continue
		}
		switch info.Kind {
		case api.KindPlain, api.KindCall, api.KindBranch:
			p.lay(next, rest)
			return
		}
	}
}

// layEnd puts in one that does not go on at the next instruction, which has any depth.
func (p *plan) layEnd(d *dice) {
	depth := p.depths[len(p.depths)-1]
	next := d.upTo(3)
	switch choice := d.upTo(3); {
	case choice <= 1 && depth == 1:
		p.lay(in(api.OpLeave, p.code[0].Arg), next)
	case choice <= 2 && depth == p.landing+1:
		p.lay(in(api.OpJump, 0), next)
	case choice <= 2:
		p.lay(in(api.OpGoto, 0), next)
	default:
		p.lay(in(api.OpBreak, 0), next)
	}
}

// like gives one of the instructions inside the procedure that have a depth, if there is one.
func (p *plan) like(d *dice, depth int) (int, bool) {
	var list []int
	for i := 1; i < len(p.code); i++ {
		if p.depths[i] == depth {
			list = append(list, i)
		}
	}
	if len(list) == 0 {
		return 0, false
	}
	return list[d.upTo(len(list)-1)], true
}

// aim lays the targets in. What finds none becomes a store, which takes as many words as a comparison, or a break.
func (p *plan) aim(d *dice, begin int) {
	for i, one := range p.code {
		info, _ := isa.Info(one.Op)
		if info.Kind != api.KindBranch && info.Kind != api.KindGoto {
			continue
		}
		if to, is := p.like(d, p.depths[i]-info.Takes); is {
			p.code[i].Arg = uint32(begin + to)
		} else if info.Kind == api.KindBranch {
			p.code[i] = in(api.OpStore1, 0)
		} else {
			p.code[i] = in(api.OpBreak, 0)
		}
	}
}

// someProc puts a procedure without a fault behind the code, of up to so many instructions inside, and some jumps.
func someProc(d *dice, im *api.Image, most int) {
	begin := len(im.Code)
	p := &plan{depths: []int{0}, landing: d.upTo(2)}
	p.lay(in(api.OpEnter, uint32(4*(1+d.upTo(7)))), 0)
	for range d.upTo(most - 1) {
		if d.upTo(15) == 0 {
			p.layEnd(d)
		} else {
			p.layPlain(d)
		}
	}
	p.layEnd(d)
	p.aim(d, begin)
	jumps := slices.ContainsFunc(p.code, func(one api.Instr) bool { return one.Op == api.OpJump })
	for i := range p.code {
		if i > 0 && d.upTo(9) == 0 && (!jumps || p.depths[i] == p.landing) {
			im.Jumps = append(im.Jumps, uint32(begin+i))
		}
	}
	im.Code = append(im.Code, p.code...)
}

// someModule gives a scattered module, of procedures of up to so many instructions.
func (d *dice) someModule(t testing.TB, most int) *verify.Module {
	t.Helper()
	im := api.Image{Stack: uint32(64 + 4*d.upTo(100)), Data: []byte("some"), Zero: uint32(d.upTo(200))}
	for range 1 + d.upTo(3) {
		someProc(d, &im, most)
	}
	return mustTake(t, im)
}

// someState gives a state of a module that fits, runs and stands at an instruction that is reached.
func (d *dice) someState(m *verify.Module, at uint32) api.State {
	size := uint32(1) << m.Bits()
	s := api.State{Life: api.LifeRuns, PC: at, SP: size - 64 - 4*uint32(d.upTo(int(m.Image().Stack-64)/4)), Data: make([]byte, size)}
	for i := range s.Data {
		s.Data[i] = byte(d.word())
	}
	proc, _ := m.ProcOf(at)
	spare := []int{0, 64 - proc.Need, d.upTo(64 - proc.Need)}[d.upTo(2)]
	for range m.Depth(at) + spare {
		s.Ops = append(s.Ops, d.someWord())
	}
	return s
}

// someGrants gives grants of the numbers that a call of a small word below nought asks for.
func (d *dice) someGrants() []api.Grant {
	var list []api.Grant
	for number := range uint32(4) {
		if d.upTo(1) > 0 {
			list = append(list, api.Grant{Number: number, Args: d.upTo(15)})
		}
	}
	return list
}

// someReplies gives up to two replies.
func (d *dice) someReplies() []api.Reply {
	var list []api.Reply
	for range d.upTo(2) {
		list = append(list, api.Reply{Value: d.someWord(), Writes: []api.Write{{At: d.someWord(), Bytes: []byte{1, 2, 3}}}})
	}
	return list
}

package verify_test

import (
	"slices"

	"playpen/api"
)

// plan is a procedure in the making, of which the depth of each instruction is laid down ahead of its targets.
type plan struct {
	code    []api.Instr
	depths  []int
	landing int // the depth at which its jumps come down
	wanted  int // the depth up to which words are put on more often than others take them
}

// lay puts an instruction in whose next one has a depth.
func (p *plan) lay(one api.Instr, next int) {
	p.code = append(p.code, one)
	p.depths = append(p.depths, next)
}

// layPlain puts in one that goes on at the next instruction.
func (p *plan) layPlain(d *dice) {
	depth := p.depths[len(p.depths)-1]
	for {
		op := api.Op(1 + d.upTo(58))
		if depth < p.wanted && d.upTo(2) > 0 {
			op = api.OpConst
		}
		of := rowBy(op)
		next := depth - of.takes + of.gives
		if depth < of.takes || next > 64 {
			continue
		}
		switch of.kind {
		case api.KindPlain, api.KindCall:
			p.lay(in(op, uint32(min(int64(d.words[d.next]), of.most))), next)
			return
		case api.KindBranch:
			p.lay(in(op, 0), next)
			return
		}
	}
}

// layEnd puts in one that does not go on at the next instruction, which has any depth.
func (p *plan) layEnd(d *dice) {
	depth := p.depths[len(p.depths)-1]
	next := d.upTo(3)
	switch choice := d.upTo(3); {
	case choice == 0 && depth == 1:
		p.lay(in(api.OpLeave, p.code[0].Arg), next)
	case choice <= 1 && depth == p.landing+1:
		p.lay(in(api.OpJump, 0), next)
	case choice <= 2:
		p.lay(in(api.OpGoto, 0), next)
	default:
		p.lay(in(api.OpBreak, 0), next)
	}
}

// like gives one of the instructions inside the procedure that have a depth, if there is one.
func (p *plan) like(d *dice, depth int) (int, bool) {
	var list []int
	for i := 1; i < len(p.code); i++ {
		if p.depths[i] == depth {
			list = append(list, i)
		}
	}
	if len(list) == 0 {
		return 0, false
	}
	return list[d.upTo(len(list)-1)], true
}

// aim lays the targets in. A comparison without one becomes a store, which takes as many words.
func (p *plan) aim(d *dice, begin int) {
	for i, one := range p.code {
		of := rowBy(one.Op)
		if of.kind != api.KindBranch && of.kind != api.KindGoto {
			continue
		}
		if to, is := p.like(d, p.depths[i]-of.takes); is {
			p.code[i].Arg = uint32(begin + to)
		} else {
			p.code[i] = in(api.OpStore1, 0)
		}
	}
}

// someProc puts a procedure without a fault behind the code, of up to so many instructions inside, and some jumps.
func someProc(d *dice, im *api.Image, most int) {
	begin := len(im.Code)
	p := &plan{depths: []int{0}, landing: d.upTo(2), wanted: d.upTo(1) * d.upTo(8)}
	p.lay(in(api.OpEnter, uint32(4*(1+d.upTo(1)*d.upTo(1023)))), 0)
	for range d.upTo(most - 1) {
		if d.upTo(4) == 0 {
			p.layEnd(d)
		} else {
			p.layPlain(d)
		}
	}
	p.layEnd(d)
	p.aim(d, begin)
	jumps := slices.ContainsFunc(p.code, func(one api.Instr) bool { return one.Op == api.OpJump })
	for i := range p.code {
		if i > 0 && d.upTo(2) == 0 && (!jumps || p.depths[i] == p.landing) {
			im.Jumps = append(im.Jumps, uint32(begin+i))
		}
	}
	im.Code = append(im.Code, p.code...)
}

// someImage gives an image that is well formed.
func someImage(d *dice, most int) api.Image {
	im := api.Image{Stack: uint32(64 + 4*d.upTo(1)*d.upTo(8176)), Zero: uint32(d.upTo(1) * d.upTo(30000))}
	for range 1 + d.upTo(2) {
		someProc(d, &im, most)
	}
	for range d.upTo(1) * d.upTo(40) {
		im.Data = append(im.Data, byte(d.upTo(255)))
	}
	name := ""
	for i, one := range im.Code {
		if one.Op == api.OpEnter && d.upTo(2) > 0 {
			name += string([]byte{byte(d.upTo(255)), byte(d.upTo(255)), byte(d.upTo(255))}[:1+d.upTo(2)])
			im.Names = append(im.Names, api.Export{Name: name, At: uint32(i)})
		}
	}
	return im
}

// layStray lays something into an image that may be a fault.
func layStray(d *dice, im *api.Image) {
	if len(im.Code) == 0 || d.upTo(4) == 0 {
		layStrayPart(d, im)
		return
	}
	at := d.upTo(len(im.Code) - 1)
	near := uint32(d.upTo(len(im.Code)))
	switch d.upTo(8) {
	case 0, 1, 2, 3:
		some := []api.Op{api.OpNop, api.OpConst, api.OpPop, api.OpDup, api.OpAdd, api.OpStore4, api.OpCall, api.OpArg, api.OpBreak}
		if im.Code[at].Op != api.OpEnter {
			im.Code[at] = in(some[d.upTo(len(some)-1)], 0)
		}
	case 4:
		im.Code[at].Arg = near
	case 5:
		im.Code[at] = in(api.Op(d.upTo(61)), near)
	case 6:
		im.Code[at].Op = []api.Op{api.OpEq, api.OpGoto, api.OpJump, api.OpLeave, api.OpEnter}[d.upTo(4)]
	case 7:
		im.Code = slices.Delete(im.Code, at, at+1)
	case 8:
		if im.Code[at].Op != api.OpEnter {
			im.Code[at] = in(api.OpLeave, im.Code[0].Arg)
		}
	}
}

// layStrayPart lays something into the other parts of an image.
func layStrayPart(d *dice, im *api.Image) {
	near := uint32(d.upTo(len(im.Code)))
	switch d.upTo(5) {
	case 0:
		im.Jumps = append(im.Jumps, near)
		slices.Sort(im.Jumps)
	case 1:
		im.Jumps = slices.Insert(im.Jumps, d.upTo(len(im.Jumps)), near)
	case 2:
		im.Names = append(im.Names, api.Export{Name: "\xff\xff\xff\xff", At: near})
	case 3:
		im.Names = slices.Insert(im.Names, d.upTo(len(im.Names)), api.Export{Name: "m", At: near})
	case 4:
		im.Stack += uint32(d.upTo(8)) - 4
	case 5:
		im.Zero = uint32(65536-len(im.Data)+d.upTo(2)-1) - im.Stack
	}
}

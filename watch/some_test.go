package watch_test

import (
	"slices"
	"strconv"
	"strings"
	"testing"

	"playpen/api"
	"playpen/isa"
	"playpen/verify"
)

// dice gives numbers from all over, always the same ones.
type dice struct{ state uint64 }

func newDice(start uint64) *dice { return &dice{state: start*0xBF58476D1CE4E5B9 + 0x9E3779B97F4A7C15} }

func (d *dice) word() uint32 {
	d.state += 0x9E3779B97F4A7C15
	x := d.state
	x = (x ^ x>>30) * 0xBF58476D1CE4E5B9
	x = (x ^ x>>27) * 0x94D049BB133111EB
	return uint32((x ^ x>>31) >> 32)
}

func (d *dice) upTo(most int) int { return int(uint64(d.word()) * uint64(most+1) >> 32) }

// rowBy tells how many words an operation takes and gives.
func rowBy(op api.Op) (takes, gives int) {
	row, _ := isa.Info(op)
	return row.Takes, row.Gives
}

func isBranch(op api.Op) bool { return op >= api.OpEq && op <= api.OpGef }

// someModule gives a scattered module.
func (d *dice) someModule(most int) made {
	for {
		im := d.someImage(most)
		if m, _, err := verify.Take(im); err == api.OK {
			return made{m, im}
		}
	}
}

// plan is a procedure in the making, of which the depth of each instruction is laid down ahead of its targets.
type plan struct {
	code    []api.Instr
	depths  []int
	landing int // the depth at which its jumps come down
	wanted  int // the depth up to which words are put on more often than others take them
}

// lay puts an instruction in whose next one has a depth.
func (p *plan) lay(one api.Instr, next int) {
	p.code = append(p.code, one)
	p.depths = append(p.depths, next)
}

// layPlain puts in one that goes on at the next instruction.
func (p *plan) layPlain(d *dice) {
	depth := p.depths[len(p.depths)-1]
	if depth < 64 && d.upTo(4) == 0 {
		p.layCall(d, depth)
		return
	}
	for {
		op := api.Op(1 + d.upTo(58))
		if depth < p.wanted && d.upTo(2) > 0 {
			op = api.OpConst
		} else if d.upTo(6) == 0 {
			op = api.OpCall
		}
		takes, gives := rowBy(op)
		next := depth - takes + gives
		if depth < takes || next > 64 || slices.Contains([]api.Op{api.OpBreak, api.OpEnter, api.OpLeave, api.OpGoto, api.OpJump}, op) {
			continue
		}
		p.lay(in(op, someOperand(d, op)), next)
		return
	}
}

// layCall puts in a call with its word ahead of it: mostly one of the host, else one of the first procedure or of what is none.
func (p *plan) layCall(d *dice, depth int) {
	word := uint32(-1 - d.upTo(5))
	if d.upTo(2) == 0 {
		word = uint32(d.upTo(1) * d.upTo(20))
	}
	p.lay(in(api.OpConst, word), depth+1)
	p.lay(in(api.OpCall, 0), depth+1)
}

// someOperand gives an operand that an operation may have; targets are laid in later.
func someOperand(d *dice, op api.Op) uint32 {
	switch op {
	case api.OpConst:
		return d.someWord()
	case api.OpLocal:
		return []uint32{0, 4, uint32(d.upTo(300)), 0xFFFFFFFC, d.word()}[d.upTo(4)]
	case api.OpArg:
		return uint32(d.upTo(14))
	case api.OpCopy:
		return []uint32{0, 1, 4, uint32(d.upTo(256)), 256}[d.upTo(4)]
	}
	return 0
}

// layEnd puts in one that does not go on at the next instruction, which has any depth.
func (p *plan) layEnd(d *dice) {
	depth := p.depths[len(p.depths)-1]
	next := d.upTo(3)
	switch choice := d.upTo(3); {
	case choice <= 1 && depth == 1:
		p.lay(in(api.OpLeave, p.code[0].Arg), next)
	case choice <= 2 && depth == p.landing+1:
		p.lay(in(api.OpJump, 0), next)
	case choice <= 2:
		p.lay(in(api.OpGoto, 0), next)
	default:
		p.lay(in(api.OpBreak, 0), next)
	}
}

// like gives one of the instructions inside the procedure that have a depth, if there is one.
func (p *plan) like(d *dice, depth int) (int, bool) {
	var list []int
	for i := 1; i < len(p.code); i++ {
		if p.depths[i] == depth {
			list = append(list, i)
		}
	}
	if len(list) == 0 {
		return 0, false
	}
	return list[d.upTo(len(list)-1)], true
}

// aim lays the targets in. A comparison without one becomes a store, which takes as many words.
func (p *plan) aim(d *dice, begin int) {
	for i, one := range p.code {
		takes, _ := rowBy(one.Op)
		if !isBranch(one.Op) && one.Op != api.OpGoto {
			continue
		}
		if to, is := p.like(d, p.depths[i]-takes); is {
			p.code[i].Arg = uint32(begin + to)
		} else {
			p.code[i] = in(api.OpStore1, 0)
		}
	}
}

// someFrame gives a frame: mostly a short one, so that a run goes on behind its enter.
func (d *dice) someFrame() uint32 {
	return []uint32{4, 4, 8, uint32(4 * (1 + d.upTo(15))), uint32(4 * (1 + d.upTo(1023)))}[d.upTo(4)]
}

// someProc puts a procedure without a fault behind the code, of up to so many instructions inside, and some jumps.
func someProc(d *dice, im *api.Image, most int) {
	begin := len(im.Code)
	p := &plan{depths: []int{0}, landing: d.upTo(2), wanted: d.upTo(1) * d.upTo([]int{3, 12, 64}[d.upTo(2)])}
	p.lay(in(api.OpEnter, d.someFrame()), 0)
	for range d.upTo(most - 1) {
		if d.upTo(8) == 0 {
			p.layEnd(d)
		} else {
			p.layPlain(d)
		}
	}
	for p.depths[len(p.depths)-1] > 1 && d.upTo(30) > 0 {
		p.lay(in(api.OpPop, 0), p.depths[len(p.depths)-1]-1)
	}
	p.layEnd(d)
	p.aim(d, begin)
	if last := p.code[len(p.code)-1]; last.Op == api.OpStore1 {
		p.code[len(p.code)-1] = in(api.OpBreak, 0)
	}
	jumps := slices.ContainsFunc(p.code, func(one api.Instr) bool { return one.Op == api.OpJump })
	for i := range p.code {
		if i > 0 && d.upTo(2) == 0 && (!jumps || p.depths[i] == p.landing) {
			im.Jumps = append(im.Jumps, uint32(begin+i))
		}
	}
	im.Code = append(im.Code, p.code...)
}

// someImage gives an image that is well formed, nearly always.
func (d *dice) someImage(most int) api.Image {
	im := api.Image{Stack: []uint32{64, 68, 128, uint32(64 + 4*d.upTo(200)), 256, 4096, 8192}[d.upTo(6)]}
	if d.upTo(3) == 0 {
		im.Zero = uint32(d.upTo(1000))
	}
	for range 1 + d.upTo(3) {
		someProc(d, &im, most)
	}
	for range d.upTo(1) * d.upTo(40) {
		im.Data = append(im.Data, byte(d.word()))
	}
	aimCalls(d, im.Code)
	return im
}

// aimCalls makes calls of procedures of nearly all that are none of the host.
func aimCalls(d *dice, code []api.Instr) {
	var begins []uint32
	for i, one := range code {
		if one.Op == api.OpEnter {
			begins = append(begins, uint32(i))
		}
	}
	for i, one := range code[1:] {
		if word := &code[i]; one.Op == api.OpCall && word.Op == api.OpConst && int32(word.Arg) >= 0 && d.upTo(8) > 0 {
			word.Arg = begins[d.upTo(len(begins)-1)]
		}
	}
}

// someWord gives a word: an index, a system call, an address near an end, an edge of the numbers, a float, any.
func (d *dice) someWord() uint32 {
	edges := []uint32{0, 0, 1, 2, 31, 32, 33, 0x7FFFFFFF, 0x80000000, 0x80000001, 0xFFFFFFFF, 0x3F800000, 0xBF800000, 0x7F800000, 0xFF800000, 0x7FC00000, 0xFFC00001, 0x7F800001, 0x00000001, 0x80000000, 0x4F000000, 0xCF000000, 0x41200000}
	switch d.upTo(6) {
	case 0:
		return edges[d.upTo(len(edges)-1)]
	case 1:
		return uint32(d.upTo(40))
	case 2:
		return uint32(-1 - d.upTo(5))
	case 3:
		return uint32(256<<d.upTo(2) - 4 + d.upTo(8))
	case 4:
		return uint32(-8 + d.upTo(16))
	case 5:
		return d.word() >> d.upTo(31)
	}
	return d.word()
}

// someBegin gives where one of a module's procedures begins.
func (d *dice) someBegin(m made) uint32 {
	all := m.Procs()
	return all[d.upTo(len(all)-1)].Begin
}

// someWordFor gives a word that an instruction of a module may be about to take: where a procedure begins, where a jump may go, any.
func (d *dice) someWordFor(m made) uint32 {
	switch d.upTo(5) {
	case 0:
		return d.someBegin(m)
	case 1:
		if count := len(m.image.Jumps); count > 0 {
			return m.image.Jumps[d.upTo(count-1)]
		}
	case 2:
		return uint32(d.upTo(len(m.image.Code) + 1))
	}
	return d.someWord()
}

// someReturn gives a word at which a leave may find itself: the mark, a return point, any.
func (d *dice) someReturn(m made) uint32 {
	var points []uint32
	for at := range uint32(len(m.image.Code) + 1) {
		if m.Back(at) {
			points = append(points, at)
		}
	}
	switch choice := d.upTo(5); {
	case choice == 0:
		return 0xFFFFFFFF
	case choice <= 3 && len(points) > 0:
		return points[d.upTo(len(points)-1)]
	case choice == 4:
		return uint32(d.upTo(len(m.image.Code) + 2))
	}
	return d.someWord()
}

// edgy gives a number from least to most, often one of the two, or a neighbour.
func (d *dice) edgy(least, most int) int {
	switch d.upTo(5) {
	case 0:
		return least
	case 1:
		return most
	case 2:
		return min(least+1, most)
	case 3:
		return max(most-1, least)
	}
	return least + d.upTo(most-least)
}

// someSP gives an SP of a module.
func (d *dice) someSP(m made) uint32 {
	return m.bottom() + 4*uint32(d.edgy(0, int(m.top()-m.bottom())/4))
}

// someData gives data of a module, with words that are of use.
func (d *dice) someData(m made) []byte {
	data := append(slices.Clone(m.image.Data), make([]byte, int(m.size())-len(m.image.Data))...)
	for range d.upTo(1) * 100 {
		data[d.upTo(len(data)-1)] = byte(d.word())
	}
	for range d.upTo(20) {
		put(data, uint32(4*d.upTo(len(data)/4-1)), d.someWordFor(m))
	}
	return data
}

// someState gives a state of a module that fits.
func (d *dice) someState(m made) api.State {
	s := api.State{SP: d.someSP(m), Data: d.someData(m)}
	var reached, leaves []uint32
	for at := range uint32(m.Count()) {
		if m.Depth(at) < 0 {
			continue
		}
		reached = append(reached, at)
		if m.image.Code[at].Op == api.OpLeave {
			leaves = append(leaves, at)
		}
	}
	s.PC = reached[d.upTo(len(reached)-1)]
	// Constants are many, and little comes of them.
	if m.image.Code[s.PC].Op == api.OpConst {
		s.PC = reached[d.upTo(len(reached)-1)]
	}
	s.Life = api.LifeRuns
	least := m.Depth(s.PC)
	switch choice := d.upTo(40); {
	case choice == 0:
		return api.State{SP: m.top(), Data: s.Data}
	case choice == 1 && len(leaves) > 0:
		s.Life, s.PC, s.Value = api.LifeDone, leaves[d.upTo(len(leaves)-1)], d.someWord()
		least = 0
	case choice == 2:
		s.Life, s.Fault = api.LifeFault, api.Fault(1+d.upTo(7))
	}
	proc, _ := m.ProcOf(s.PC)
	for range d.edgy(least, least+64-proc.Need) {
		s.Ops = append(s.Ops, d.someWordFor(m))
	}
	// Two words that are the same are what a comparison seldom meets by chance.
	if last := len(s.Ops) - 1; last > 0 && d.upTo(5) == 0 {
		s.Ops[last] = s.Ops[last-1]
	}
	if at := s.SP + proc.Frame; at <= m.top() {
		put(s.Data, at, d.someReturn(m))
	}
	return s
}

// someGrants gives grants of the numbers that someWord asks for most, and others.
func (d *dice) someGrants() []api.Grant {
	var list []api.Grant
	for number := range uint32(6) {
		if d.upTo(2) > 0 {
			list = append(list, grant(number, d.upTo(15)))
		}
	}
	if d.upTo(1) == 0 {
		list = append(list, grant(1<<31-1, d.upTo(2)))
	}
	for i := range list {
		j := d.upTo(i)
		list[i], list[j] = list[j], list[i]
	}
	return list
}

// someReplies gives up to so many replies; their writes lie over one another, and go round the ends.
func (d *dice) someReplies(most int) []api.Reply {
	var list []api.Reply
	for range d.upTo(most) {
		r := reply(d.someWord())
		for range d.upTo(1) * d.upTo([]int{3, 16}[d.upTo(1)]) {
			w := api.Write{At: d.someWord()}
			for range d.upTo([]int{4, 20, 256}[d.upTo(2)]) {
				w.Bytes = append(w.Bytes, byte(d.word()))
			}
			r.Writes = append(r.Writes, w)
		}
		list = append(list, r)
	}
	return list
}

// someArgs gives arguments of a Start.
func (d *dice) someArgs() []uint32 {
	args := make([]uint32, d.upTo(15))
	for i := range args {
		args[i] = d.someWord()
	}
	return args
}

// turnPart makes one part of a state another one.
func turnPart(d *dice, m made, s *api.State) {
	switch d.upTo(6) {
	case 0:
		s.Life = api.Life(d.upTo(5))
	case 1:
		s.PC = []uint32{uint32(d.upTo(len(m.image.Code) + 1)), s.PC + 1, s.PC - 1, d.word()}[d.upTo(3)]
	case 2:
		s.SP = []uint32{d.someSP(m), s.SP + 4, s.SP - 4, s.SP + 1, d.word()}[d.upTo(4)]
	case 3:
		s.Ops = many(d.edgy(0, 65))
	case 4:
		s.Data = make([]byte, []int{len(s.Data), len(s.Data) - 1, len(s.Data) + 1, 2 * len(s.Data)}[d.upTo(3)])
	case 5:
		s.Value = uint32(d.upTo(2))
	case 6:
		s.Fault = api.Fault(d.upTo(10))
	}
}

// somePoint gives a point that a module may have, often one that is of use in a state.
func (d *dice) somePoint(m made, s api.State) api.Point {
	switch kind := []api.PointKind{api.PointAt, api.PointIn, api.PointRead, api.PointWrite, api.PointWhen, api.PointWhen, api.PointWhen, api.PointCall}[d.upTo(7)]; kind {
	case api.PointAt:
		return point(kind, uint32(d.upTo(m.Count()-1)))
	case api.PointIn:
		return point(kind, d.someBegin(m))
	case api.PointRead, api.PointWrite:
		return span(kind, d.somePlace(m, s), []uint32{1, 2, 4, uint32(1 + d.upTo(40)), m.size() - 1, m.size(), m.size() + 1, 1 << 31, 0xFFFFFFFF}[d.upTo(8)])
	case api.PointWhen:
		at := d.somePlace(m, s)
		if d.upTo(1) == 0 {
			at = s.SP - 16 + 4*uint32(d.upTo(16))
			return when(at, api.OpNe, wordAt(s.Data, at))
		}
		value := []uint32{wordAt(s.Data, at), wordAt(s.Data, at) + 1, 0, d.someWordFor(m)}[d.upTo(3)]
		return when(at, api.OpEq+api.Op(d.upTo(int(api.OpGef-api.OpEq))), value)
	default:
		return point(kind, []uint32{0, 1, 2, 3, 4, 5, 1<<31 - 1}[d.upTo(6)])
	}
}

// somePlace gives an address: one near the SP, near an end of the segment, any.
func (d *dice) somePlace(m made, s api.State) uint32 {
	switch d.upTo(5) {
	case 0:
		return d.word()
	case 1:
		return d.someWord()
	}
	return s.SP - 8 + uint32(d.upTo(32)) + uint32(d.upTo(2))*m.size()
}

// someCallers gives a module of procedures that call later ones, and come back in the end, with what else takes a while between.
func (d *dice) someCallers(t testing.TB) made {
	count := 2 + d.upTo(4)
	var source []string
	begins := make([]int, count)
	for i := count - 1; i >= 0; i-- {
		// The later ones are laid first: so it is known where they begin.
		frame := " " + strconv.Itoa(4*(1+d.upTo(5)))
		begins[i] = len(source)
		source = append(source, "enter"+frame)
		for range d.upTo(4) {
			if i < count-1 && d.upTo(3) > 0 {
				source = append(source, "const "+strconv.Itoa(begins[i+1+d.upTo(count-2-i)]), "call", "pop")
			} else {
				source = append(source, "nop", "local 0", "load4", "pop")
			}
		}
		source = append(source, "const "+strconv.Itoa(i), "leave"+frame)
	}
	return module(t, 4096, strings.Join(source, ", "))
}

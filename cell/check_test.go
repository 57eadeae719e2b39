package cell_test

import (
	"slices"
	"testing"

	"playpen/api"
	"playpen/verify"
)

// turned gives threaded code with one of its cells turned.
func turned(x api.Threaded, i int, turn func(c *api.Cell)) api.Threaded {
	x = cloned(x)
	turn(&x.Cells[i])
	return x
}

// P23.3, 1: each cell begins where the one ahead ends, the first at 0.
func TestCheckPlaces(t *testing.T) {
	m, x := example(t), exampleCells()
	for i, c := range x.Cells {
		for _, at := range []uint32{0, 1, 5, 6, 12, 13, 14, 15, 1 << 31, 1<<32 - 1} {
			if at != c.Fused.At {
				wantTold(t, "another At", m, turned(x, i, func(c *api.Cell) { c.Fused.At = at }), i, api.ErrCover)
			}
		}
		less, twice := cloned(x), cloned(x)
		less.Cells = slices.Delete(less.Cells, i, i+1)
		wantTold(t, "one cell less", m, less, i, api.ErrCover)
		twice.Cells = slices.Insert(twice.Cells, i, c)
		wantTold(t, "one cell twice", m, twice, i+1, api.ErrCover)
	}
	back := cloned(x)
	slices.Reverse(back.Cells)
	wantTold(t, "from the back", m, back, 0, api.ErrCover)
}

// P23.3, 1: each cell has an instruction, and ends in the code, as whole numbers.
func TestCheckLengths(t *testing.T) {
	m, x := example(t), exampleCells()
	for i, c := range x.Cells {
		rest := 14 - c.Fused.At
		for _, length := range []uint32{0, rest + 1, rest + 2, 1 << 31, -c.Fused.At - 1, -c.Fused.At, -c.Fused.At + 1, 1<<32 - 1} {
			if c.Fused.At > 1 || length != 1 {
				wantTold(t, "another Len", m, turned(x, i, func(c *api.Cell) { c.Fused.Len = length }), i, api.ErrCover)
			}
		}
	}
	for _, c := range []api.Cell{alone(14, api.OpNop, 0, no), {Fused: api.Fused{At: 14}}, {}, alone(13, api.OpLeave, 8, no), {Fused: api.Fused{At: 14, Len: 1<<32 - 14}}} {
		more := cloned(x)
		more.Cells = append(more.Cells, c)
		wantTold(t, "one cell more", m, more, 8, api.ErrCover)
	}
}

// P23.3: the cells go up to the code's end, and there is one at least.
func TestCheckEnds(t *testing.T) {
	m := example(t)
	for count := range 8 {
		x := exampleCells()
		x.Cells = x.Cells[:count]
		wantTold(t, "too few cells", m, x, count, api.ErrCover)
		wantTold(t, "too few cells, with their own numbers", m, numbered(thingsOf(x.Cells), 14), count, api.ErrCover)
	}
	wantTold(t, "nothing", m, api.Threaded{}, 0, api.ErrCover)
	wantTold(t, "empty lists", m, api.Threaded{Cells: []api.Cell{}, Begins: []uint32{}}, 0, api.ErrCover)
	wantTold(t, "the least", module(t, "enter 4, break"), numbered([]api.Fused{thing(0, 1, api.FuseOne, api.OpEnter, 4, 0), thing(1, 1, api.FuseOne, api.OpBreak, 0, 0)}, 2), 0, api.OK)
}

// P23.3, 2: no leader, of whatever kind, is an instruction of a cell but its first one, though a shape fits.
func TestCheckLeaders(t *testing.T) {
	const source = "0 enter 4, 1 nop, 2 nop, 3 nop, 4 nop, 5 break"
	whole := func(m *verify.Module) api.Threaded {
		code := m.Image().Code
		list := []api.Fused{thing(0, 1, api.FuseOne, api.OpEnter, 4, 0), thing(1, 4, api.FuseNone, 0, 0, 0)}
		for at := 5; at < len(code); at++ {
			list = append(list, thing(uint32(at), 1, api.FuseOne, code[at].Op, code[at].Arg, 0))
		}
		return numbered(list, len(code))
	}
	try := func(what, source string, place int, err api.Errno, jumps ...uint32) {
		t.Helper()
		m := module(t, source, jumps...)
		wantTold(t, what, m, whole(m), place, err)
	}
	try("no leader", source, 0, api.OK)
	try("its first one", source, 0, api.OK, 1)
	try("its second one", source, 1, api.ErrLeader, 2)
	try("one within", source, 1, api.ErrLeader, 3)
	try("its last one", source, 1, api.ErrLeader, 4)
	try("the one behind", source, 0, api.OK, 5)
	try("both around", source, 0, api.OK, 1, 5)
	try("all", source, 1, api.ErrLeader, 1, 2, 3, 4, 5)
	try("a goto's operand", source+", 6 goto 4", 1, api.ErrLeader)
	try("a goto's operand, its first one", source+", 6 goto 1", 0, api.OK)
	for _, op := range comparisons() {
		m := mustTake(t, api.Image{Code: append(lines(t, source), in(op, 2), in(api.OpBreak, 0)), Stack: 128})
		wantTold(t, "a comparison's operand", m, whole(m), 1, api.ErrLeader)
	}
}

// P23.3, 2: an instruction behind a call and a procedure's first one lead too; that no shape fits is told later.
func TestCheckLeadersNoShape(t *testing.T) {
	m := module(t, "0 enter 4, 1 const 0, 2 call, 3 pop, 4 break, 5 enter 4, 6 break")
	try := func(what string, place int, things ...api.Fused) {
		t.Helper()
		wantTold(t, what, m, numbered(things, 7), place, api.ErrLeader)
	}
	first, call := thing(0, 1, api.FuseOne, api.OpEnter, 4, 0), thing(1, 2, api.FuseCallConst, 0, 0, 0)
	try("over what is behind a call", 1, first, thing(1, 3, api.FuseCallConst, 0, 0, 0))
	try("from the call on", 2, first, thing(1, 1, api.FuseOne, api.OpConst, 0, 0), thing(2, 2, api.FuseOne, api.OpCall, 0, 0))
	try("over an enter", 3, first, call, thing(3, 1, api.FuseOne, api.OpPop, 0, 0), thing(4, 2, api.FuseOne, api.OpBreak, 0, 0))
	try("up to the code's end", 2, first, call, thing(3, 4, api.FuseOne, api.OpPop, 0, 0))
	try("the whole code", 0, thing(0, 7, 99, 99, 99, 99))
}

// P23.3, 3: a cell is the very thing that its shape makes of just its instructions.
func TestCheckThings(t *testing.T) {
	m, x := example(t), exampleCells()
	for i, c := range x.Cells {
		for k := range 256 {
			if kind := api.FuseKind(k); kind != c.Fused.Kind {
				wantTold(t, "another Kind", m, turned(x, i, func(c *api.Cell) { c.Fused.Kind = kind }), i, api.ErrCell)
			}
			if op := api.Op(k); op != c.Fused.Op {
				wantTold(t, "another Op", m, turned(x, i, func(c *api.Cell) { c.Fused.Op = op }), i, api.ErrCell)
			}
		}
		for _, more := range []uint32{1, 2, 1 << 31, 1<<32 - 1} {
			wantTold(t, "another A", m, turned(x, i, func(c *api.Cell) { c.Fused.A += more }), i, api.ErrCell)
			wantTold(t, "another B", m, turned(x, i, func(c *api.Cell) { c.Fused.B += more }), i, api.ErrCell)
		}
	}
}

// P23.3, 3: a shape fits just the cell's instructions, no fewer and no more; it need not be the longest.
func TestCheckStretches(t *testing.T) {
	m := module(t, "0 enter 4, 1 const 1, 2 nop, 3 pop, 4 nop, 5 const 2, 6 neg, 7 arg 0, 8 break")
	list := func(things ...api.Fused) api.Threaded {
		first, last := thing(0, 1, api.FuseOne, api.OpEnter, 4, 0), thing(8, 1, api.FuseOne, api.OpBreak, 0, 0)
		return numbered(slices.Concat([]api.Fused{first}, things, []api.Fused{last}), 9)
	}
	none, push := func(at, length uint32) api.Fused { return thing(at, length, api.FuseNone, 0, 0, 0) }, func(at, length, a uint32) api.Fused { return thing(at, length, api.FusePush, 0, a, 0) }
	neg, arg := uint32(0xFFFFFFFE), thing(7, 1, api.FuseOne, api.OpArg, 0, 0)
	argConst := func(at, length uint32) api.Fused { return thing(at, length, api.FuseArgConst, 0, neg, 0) }
	alone := func(at uint32, op api.Op, a uint32) api.Fused { return thing(at, 1, api.FuseOne, op, a, 0) }

	wantTold(t, "a word of six", m, list(push(1, 6, neg), arg), 0, api.OK)
	wantTold(t, "seven as one", m, list(argConst(1, 7)), 0, api.OK)
	wantTold(t, "four and three", m, list(none(1, 4), argConst(5, 3)), 0, api.OK)
	wantTold(t, "three and four", m, list(none(1, 3), argConst(4, 4)), 0, api.OK)
	wantTold(t, "two, two and three", m, list(push(1, 2, 1), alone(3, api.OpPop, 0), push(4, 2, 2), alone(6, api.OpNeg, 0), arg), 0, api.OK)
	wantTold(t, "a word of five, which is 2", m, list(push(1, 5, 2), alone(6, api.OpNeg, 0), arg), 0, api.OK)
	wantTold(t, "a word of five, with the value of six", m, list(push(1, 5, neg), alone(6, api.OpNeg, 0), arg), 1, api.ErrCell)
	wantTold(t, "nothing of three, as a word", m, list(push(1, 3, 1), argConst(4, 4)), 1, api.ErrCell)
	wantTold(t, "a word of two, as nothing", m, list(none(1, 2), alone(3, api.OpPop, 0), argConst(4, 4)), 1, api.ErrCell)
	wantTold(t, "a word of one", m, list(push(1, 1, 1), alone(2, api.OpNop, 0), alone(3, api.OpPop, 0), argConst(4, 4)), 1, api.ErrCell)
	wantTold(t, "nothing of one", m, list(push(1, 2, 1), alone(3, api.OpPop, 0), none(4, 1), argConst(5, 3)), 3, api.ErrCell)
	wantTold(t, "one instruction of two", m, list(thing(1, 2, api.FuseOne, api.OpConst, 1, 0), alone(3, api.OpPop, 0), argConst(4, 4)), 1, api.ErrCell)
	wantTold(t, "six as an arg's", m, list(argConst(1, 6), arg), 1, api.ErrCell)
	wantTold(t, "seven as a word", m, list(push(1, 7, neg)), 1, api.ErrCell)
}

// P23.3: Begins has the number of each cell at its first instruction, NoCell elsewhere, and nothing more.
func TestCheckBegins(t *testing.T) {
	m, x := example(t), exampleCells()
	for i, number := range x.Begins {
		for _, other := range []uint32{0, 1, 3, 6, 7, 8, number + 1, number - 1, 1 << 31, no} {
			if other != number {
				y := cloned(x)
				y.Begins[i] = other
				wantTold(t, "another number", m, y, 8, api.ErrCellMap)
			}
		}
		y := cloned(x)
		y.Begins = y.Begins[:i]
		wantTold(t, "too few", m, y, 8, api.ErrCellMap)
	}
	for _, more := range []uint32{0, 8, no} {
		y := cloned(x)
		y.Begins = append(y.Begins, more)
		wantTold(t, "one more", m, y, 8, api.ErrCellMap)
	}
	wantTold(t, "none", m, api.Threaded{Cells: x.Cells}, 8, api.ErrCellMap)
	y := cloned(x)
	slices.Reverse(y.Begins)
	wantTold(t, "from the back", m, y, 8, api.ErrCellMap)
}

// P23.3: To is the number of the cell at the target, NoCell where there is no target; the first other one is told.
func TestCheckTo(t *testing.T) {
	m, x := example(t), exampleCells()
	for i, c := range x.Cells {
		for _, other := range []uint32{0, 1, 5, 6, 7, 8, 12, 14, 1 << 31, no - 1, no} {
			if other == c.To {
				continue
			}
			y := turned(x, i, func(c *api.Cell) { c.To = other })
			wantTold(t, "another To", m, y, i, api.ErrCell)
			for j := range i {
				wantTold(t, "two of them", m, turned(y, j, func(c *api.Cell) { c.To = 4 }), j, api.ErrCell)
			}
		}
	}
}

// P23.3: every kind of cell that has a target, with the number of the cell that begins there and with others.
func TestCheckTargets(t *testing.T) {
	m := module(t, `0 enter 4, 1 const 9, 2 local 1, 3 load4, 4 gtu 1, 5 local 4, 6 const 9, 7 lti 1, 8 const 2, 9 const 1, 10 gti 1, 11 const 1, 12 const 2, 13 gti 1,
		14 local 4, 15 local 4, 16 eq 1, 17 goto 1`)
	x := checkTranslate(t, m)
	aims := map[int]bool{}
	for i, c := range x.Cells {
		if c.To != no {
			aims[i] = true
		}
		for to := uint32(0); to <= uint32(len(x.Cells)); to++ {
			if to != c.To {
				wantTold(t, "another To", m, turned(x, i, func(c *api.Cell) { c.To = to }), i, api.ErrCell)
			}
		}
		if c.To != no {
			wantTold(t, "no To", m, turned(x, i, func(c *api.Cell) { c.To = no }), i, api.ErrCell)
		}
	}
	if len(x.Cells) != 11 || len(aims) != 5 || !aims[2] || !aims[4] || !aims[5] || !aims[9] || !aims[10] {
		t.Errorf("%v", x.Cells)
	}
}

// flaw is a fault that is laid into the example's threaded code, in the order in which they are told.
type flaw struct {
	place int
	err   api.Errno
	lay   func(x *api.Threaded)
}

func flaws() []flaw {
	turn := func(place int, err api.Errno, turn func(c *api.Cell)) flaw {
		return flaw{place, err, func(x *api.Threaded) { turn(&x.Cells[place]) }}
	}
	return []flaw{
		turn(1, api.ErrCover, func(c *api.Cell) { c.Fused.Len = 0 }),
		turn(2, api.ErrCell, func(c *api.Cell) { c.Fused.Op = api.OpLoad1 }),
		turn(4, api.ErrCover, func(c *api.Cell) { c.Fused.At = 8 }),
		turn(4, api.ErrLeader, func(c *api.Cell) { c.Fused.Len = 3 }),
		turn(4, api.ErrCell, func(c *api.Cell) { c.Fused.A = 1 }),
		turn(5, api.ErrCover, func(c *api.Cell) { c.Fused.At = 12 }),
		turn(6, api.ErrCell, func(c *api.Cell) { c.Fused.B = 1 }),
		{7, api.ErrCover, func(x *api.Threaded) { x.Cells = x.Cells[:7] }},
		{8, api.ErrCellMap, func(x *api.Threaded) { x.Begins = x.Begins[:13] }},
		{8, api.ErrCellMap, func(x *api.Threaded) { x.Begins[2] = 1 }},
		turn(0, api.ErrCell, func(c *api.Cell) { c.To = 0 }),
		turn(3, api.ErrCell, func(c *api.Cell) { c.To = 7 }),
		turn(6, api.ErrCell, func(c *api.Cell) { c.To = 7 }),
	}
}

// P23.3: of two faults the first one is told, at its place, and of all too.
func TestCheckOrder(t *testing.T) {
	m, list := example(t), flaws()
	for i, first := range list {
		for _, second := range list[i:] {
			x := exampleCells()
			first.lay(&x)
			if first.err != api.ErrCover || first.place != 7 || second.place < 7 {
				second.lay(&x)
			}
			wantTold(t, "two faults", m, x, first.place, first.err)
		}
		x := exampleCells()
		for _, one := range slices.Backward(list[i:]) {
			one.lay(&x)
		}
		wantTold(t, "all faults from one on", m, x, first.place, first.err)
	}
}

// P23.3: whatever is cut and joined of things that fit stands for its module.
func TestScatteredCovers(t *testing.T) {
	seen := map[api.FuseKind]int{}
	for round := range uint64(1000) {
		d := newDice(round + 30000)
		m := d.someModule(t, 20)
		for range 3 {
			x := d.someCover(t, m.Image())
			wantTold(t, "a cover", m, x, 0, api.OK)
			for _, c := range x.Cells {
				seen[c.Fused.Kind]++
			}
		}
	}
	for k := api.FuseOne; k <= api.FuseBump; k++ {
		if seen[k] < 100 {
			t.Errorf("kind %d was seen %d times", k, seen[k])
		}
	}
}

// joined gives things of which two neighbours, if there are some, became one of a kind.
func (d *dice) joined(list []api.Fused, i int) []api.Fused {
	if i+1 == len(list) {
		return list
	}
	list = slices.Clone(list)
	list[i].Len += list[i+1].Len
	if d.upTo(1) == 0 {
		list[i].Kind = api.FuseKind(d.upTo(16))
	}
	return slices.Delete(list, i+1, i+2)
}

// stray gives threaded code with something turned, mostly a little thing.
func (d *dice) stray(x api.Threaded, count int) api.Threaded {
	x = cloned(x)
	if len(x.Cells) == 0 || len(x.Begins) == 0 {
		return x
	}
	i := d.upTo(len(x.Cells) - 1)
	c := &x.Cells[i]
	switch d.upTo(11) {
	case 0:
		c.Fused.At += d.someWord()
	case 1:
		c.Fused.Len = d.someWord()
	case 2:
		c.Fused.Kind = api.FuseKind(d.upTo(17))
	case 3:
		c.Fused.Op = api.Op(d.upTo(60))
	case 4:
		c.Fused.A = d.someWord()
	case 5:
		c.Fused.B = d.someWord()
	case 6:
		c.To = one(d, []uint32{no, uint32(d.upTo(len(x.Cells))), d.word()})
	case 7:
		x.Begins[d.upTo(len(x.Begins)-1)] = one(d, []uint32{no, uint32(d.upTo(len(x.Cells))), d.word()})
	case 8:
		x.Cells = slices.Delete(x.Cells, i, i+1)
	case 9:
		return numbered(d.joined(thingsOf(x.Cells), i), count)
	case 10:
		x.Begins = one(d, [][]uint32{x.Begins[:len(x.Begins)-1], append(x.Begins, no), nil})
	case 11:
		x.Cells = x.Cells[:i]
	}
	return x
}

// P23.3: threaded code with scattered faults; each error comes often, and none too.
func TestScatteredFaults(t *testing.T) {
	met := map[api.Errno]int{}
	for round := range uint64(3000) {
		d := newDice(round + 40000)
		m := d.someModule(t, 12)
		im := m.Image()
		cover := d.someCover(t, im)
		for range 5 {
			x := cover
			for range 1 + d.upTo(2) {
				x = d.stray(x, len(im.Code))
			}
			_, err := checkCheck(t, m, x)
			met[err]++
		}
	}
	for _, err := range []api.Errno{api.OK, api.ErrCover, api.ErrLeader, api.ErrCell, api.ErrCellMap} {
		if met[err] < 100 {
			t.Errorf("error %d was met %d times", err, met[err])
		}
	}
}

// P23.3: what stands for one module stands for another one just if the book says so.
func TestOtherModules(t *testing.T) {
	other := module(t, "0 enter 8, 1 const 2, 2 const 3, 3 add, 4 arg 0, 5 local 12, 6 load4, 7 const 9, 8 lti 12, 9 const 0, 10 call, 11 pop, 12 const 0, 13 leave 8", 3)
	wantTold(t, "with a jump", other, exampleCells(), 1, api.ErrLeader)
	wantTold(t, "less code", module(t, "enter 8, break"), exampleCells(), 1, api.ErrCover)
	wantTold(t, "more code", module(t, "0 enter 8, 1 const 2, 2 const 3, 3 add, 4 arg 0, 5 local 12, 6 load4, 7 const 9, 8 lti 12, 9 const 0, 10 call, 11 pop, 12 const 0, 13 leave 8, 14 break"), exampleCells(), 8, api.ErrCover)
	for round := range uint64(200) {
		d := newDice(round + 50000)
		checkCheck(t, d.someModule(t, 10), d.someCover(t, d.someModule(t, 10).Image()))
	}
}

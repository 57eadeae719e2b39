package procs_test

import (
	"iter"
	"math"
	"slices"
	"testing"

	"playpen/api"
	"playpen/procs"
)

// given is what Find is asked of.
type given struct {
	code  []api.Instr
	jumps []uint32
	names []api.Export
}

// found is what Find tells beside the procedures.
type found struct {
	at  int
	err api.Errno
}

func in(op api.Op, arg uint32) api.Instr { return api.Instr{Op: op, Arg: arg} }

// sample gives the code of the chapter's examples, with the jumps and names of the first.
func sample() given {
	return given{
		code: []api.Instr{
			in(api.OpEnter, 8), in(api.OpConst, 0), in(api.OpLeave, 8),
			in(api.OpEnter, 4), in(api.OpConst, 4), in(api.OpJump, 0), in(api.OpConst, 1), in(api.OpLeave, 4),
		},
		jumps: []uint32{4, 6},
		names: []api.Export{{Name: "f", At: 3}},
	}
}

// cloned gives the same with lists of its own.
func (g given) cloned() given {
	return given{slices.Clone(g.code), slices.Clone(g.jumps), slices.Clone(g.names)}
}

// with gives the same with another instruction at an index.
func (g given) with(at int, turned api.Instr) given {
	g = g.cloned()
	g.code[at] = turned
	return g
}

// jumping gives the same with other jumps.
func (g given) jumping(jumps ...uint32) given {
	g = g.cloned()
	g.jumps = jumps
	return g
}

// named gives the same with names at these indices.
func (g given) named(places ...uint32) given {
	g = g.cloned()
	g.names = nil
	for _, at := range places {
		g.names = append(g.names, api.Export{Name: "f", At: at})
	}
	return g
}

// repeated gives code with an enter ahead of so many instructions and a break behind them.
func repeated(count int, body api.Instr) []api.Instr {
	code := append([]api.Instr{in(api.OpEnter, 4)}, slices.Repeat([]api.Instr{body}, count)...)
	return append(code, in(api.OpBreak, 0))
}

// The oracle: the chapter's words, one by one.

// mostBy gives the greatest operand of an operation, as chapter 7's table has it; -1, if it is none.
func mostBy(op api.Op) int64 {
	switch {
	case op < api.OpNop || op > api.OpCvfi:
		return -1
	case op == api.OpEnter || op == api.OpLeave:
		return 65535
	case isStatic(op):
		return 16383
	case op == api.OpConst || op == api.OpLocal:
		return math.MaxUint32
	case op == api.OpArg:
		return 14
	case op == api.OpCopy:
		return 256
	}
	return 0
}

// isStatic tells whether an operation's operand is a static target.
func isStatic(op api.Op) bool {
	return op == api.OpGoto || slices.Contains(comparisons(), op)
}

func comparisons() []api.Op {
	return []api.Op{
		api.OpEq, api.OpNe, api.OpLti, api.OpLei, api.OpGti, api.OpGei, api.OpLtu, api.OpLeu,
		api.OpGtu, api.OpGeu, api.OpEqf, api.OpNef, api.OpLtf, api.OpLef, api.OpGtf, api.OpGef,
	}
}

// enders gives the operations that may stand last in a procedure.
func enders() []api.Op {
	return []api.Op{api.OpGoto, api.OpJump, api.OpLeave, api.OpBreak}
}

// bounds gives for each instruction where its procedure begins and ends; the first one is an enter.
func bounds(code []api.Instr) (begins []int, ends []int) {
	begins, ends = make([]int, len(code)), make([]int, len(code))
	for i := range code {
		if code[i].Op == api.OpEnter {
			begins[i] = i
		} else {
			begins[i] = begins[i-1]
		}
	}
	end := len(code)
	for i := len(code) - 1; i >= 0; i-- {
		ends[i] = end
		if code[i].Op == api.OpEnter {
			end = i
		}
	}
	return begins, ends
}

// codeFault tells the fault of an instruction by its place in its procedure.
func codeFault(code []api.Instr, i int, begin int, end int) api.Errno {
	arg := int(code[i].Arg)
	switch code[i].Op {
	case api.OpEnter:
		if arg == 0 || arg > 4096 || arg/4*4 != arg {
			return api.ErrFrame
		}
	case api.OpLeave:
		if code[begin].Arg != code[i].Arg {
			return api.ErrFrame
		}
	}
	if isStatic(code[i].Op) && (arg <= begin || arg >= end) {
		return api.ErrTarget
	}
	if i+1 == end && !slices.Contains(enders(), code[i].Op) {
		return api.ErrEnds
	}
	return api.OK
}

// findBy tells what Find has to, and the procedures.
func findBy(g given) ([]api.Proc, found) {
	if len(g.code) > 16384 {
		return nil, found{16384, api.ErrInstrs}
	}
	for i, one := range g.code {
		if mostBy(one.Op) < 0 {
			return nil, found{i, api.ErrOp}
		}
		if int64(one.Arg) > mostBy(one.Op) {
			return nil, found{i, api.ErrOperand}
		}
	}
	if len(g.code) == 0 || g.code[0].Op != api.OpEnter {
		return nil, found{0, api.ErrFirst}
	}
	begins, ends := bounds(g.code)
	var list []api.Proc
	for i := range g.code {
		if err := codeFault(g.code, i, begins[i], ends[i]); err != api.OK {
			return nil, found{i, err}
		}
		if begins[i] == i {
			list = append(list, api.Proc{Begin: uint32(i), End: uint32(ends[i]), Frame: g.code[i].Arg})
		}
	}
	for i, to := range g.jumps {
		if i > 0 && g.jumps[i-1] >= to || int64(to) >= int64(len(g.code)) || g.code[to].Op == api.OpEnter {
			return nil, found{i, api.ErrJumpTo}
		}
	}
	for i, name := range g.names {
		if int64(name.At) >= int64(len(g.code)) || g.code[name.At].Op != api.OpEnter {
			return nil, found{i, api.ErrExport}
		}
	}
	return list, found{}
}

// ofBy tells the number of the procedure that has an instruction.
func ofBy(list []api.Proc, index uint32) int {
	return slices.IndexFunc(list, func(proc api.Proc) bool { return proc.Begin <= index && index < proc.End })
}

// tryFind wants Find to answer so, and to tell Procs just where there is no error.
func tryFind(t *testing.T, what string, g given, at int, err api.Errno) *procs.Procs {
	t.Helper()
	p, gotAt, gotErr := procs.Find(g.code, g.jumps, g.names)
	if gotAt != at || gotErr != err || (p == nil) != (err != api.OK) {
		t.Errorf("%s: %d, %d, want %d, %d", what, gotAt, gotErr, at, err)
	}
	if _, want := findBy(g); want != (found{at, err}) {
		t.Errorf("%s: by the chapter's words %v", what, want)
	}
	return p
}

// check holds Find, and what its Procs tell, against the oracle; it tells Find's error.
func check(t *testing.T, g given) api.Errno {
	t.Helper()
	list, want := findBy(g)
	p, at, err := procs.Find(g.code, g.jumps, g.names)
	if (found{at, err}) != want || (p == nil) != (err != api.OK) {
		t.Fatalf("Find(%v): %d, %d, want %v", g, at, err, want)
	}
	if err == api.OK {
		checkProcs(t, g, p, list)
		checkFollows(t, g, p)
	}
	return err
}

// indices gives those of code, and some beyond it.
func indices(count int) []uint32 {
	list := []uint32{1 << 14, 1 << 16, 1 << 20, 1 << 31, 1<<32 - 1}
	for i := range count + 3 {
		list = append(list, uint32(i))
	}
	return list
}

// checkProcs holds what Procs tell of single instructions and procedures against the oracle.
func checkProcs(t *testing.T, g given, p *procs.Procs, list []api.Proc) {
	t.Helper()
	if p.Count() != len(list) {
		t.Fatalf("%v: Count %d, want %d", g, p.Count(), len(list))
	}
	for _, i := range []int{math.MinInt, -1 << 32, -2, -1, len(list), len(list) + 1, 1 << 32, math.MaxInt} {
		proc, is := p.Proc(i)
		if proc != (api.Proc{}) || is || len(p.Targets(i)) != 0 {
			t.Fatalf("%v: there is a procedure %d: %v", g, i, proc)
		}
	}
	for i, want := range list {
		if proc, is := p.Proc(i); proc != want || !is {
			t.Fatalf("%v: Proc(%d): %v, %t", g, i, proc, is)
		}
		var targets []uint32
		for _, to := range g.jumps {
			if ofBy(list, to) == i {
				targets = append(targets, to)
			}
		}
		if got := p.Targets(i); !slices.Equal(got, targets) {
			t.Fatalf("%v: Targets(%d): %v", g, i, got)
		}
	}
	checkAll(t, p, list)
	for _, index := range indices(len(g.code)) {
		if got := p.Of(index); got != ofBy(list, index) {
			t.Fatalf("%v: Of(%d): %d", g, index, got)
		}
		begins := slices.ContainsFunc(list, func(proc api.Proc) bool { return proc.Begin == index })
		if got := p.Begins(index); got != begins {
			t.Fatalf("%v: Begins(%d): %t", g, index, got)
		}
	}
	checkLegal(t, g, p, list)
}

// checkAll wants All to go through a list.
func checkAll(t *testing.T, p *procs.Procs, list []api.Proc) {
	t.Helper()
	n := 0
	for i, proc := range p.All() {
		if i != n || i >= len(list) || proc != list[i] {
			t.Fatalf("All: %d: %v, of %v", i, proc, list)
		}
		n++
	}
	if n != len(list) {
		t.Fatalf("All: %d of %v", n, list)
	}
}

// checkLegal holds Legal against the oracle: at all pairs, or where the code is long, at those near the beginning.
func checkLegal(t *testing.T, g given, p *procs.Procs, list []api.Proc) {
	t.Helper()
	all := indices(min(len(g.code), 60))
	for _, from := range all {
		for _, to := range all {
			of := ofBy(list, from)
			want := slices.Contains(g.jumps, to) && of >= 0 && of == ofBy(list, to)
			if got := p.Legal(from, to); got != want {
				t.Fatalf("%v: Legal(%d, %d): %t", g, from, to, got)
			}
		}
	}
}

// collected gives what an iterator goes through; it may not be nil.
func collected[K any](t *testing.T, all iter.Seq[K]) []K {
	t.Helper()
	if all == nil {
		t.Fatal("the iterator is nil")
	}
	return slices.Collect(all)
}

// scattered gives so many words, always the same ones, from all over.
func scattered(count int) []uint32 {
	list := make([]uint32, count)
	state := uint64(0x9E3779B97F4A7C15)
	for i := range list {
		state ^= state << 13
		state ^= state >> 7
		state ^= state << 17
		list[i] = uint32(state * 0x2545F4914F6CDD1D >> 32)
	}
	return list
}

// dice hands out scattered words one by one, over and over.
type dice struct {
	words []uint32
	next  int
}

func (d *dice) upTo(most int) int {
	d.next = (d.next + 1) % len(d.words)
	return int(uint64(d.words[d.next]) * uint64(most+1) >> 32)
}

// someInstruction gives one that is no enter, for the midst of a procedure from begin to end - 1.
func someInstruction(d *dice, begin int, end int, frame uint32) api.Instr {
	op := api.Op(1 + d.upTo(58))
	switch {
	case isStatic(op):
		return in(op, uint32(begin+1+d.upTo(end-begin-2)))
	case op == api.OpLeave:
		return in(op, frame)
	case op == api.OpEnter:
		return in(api.OpConst, uint32(d.upTo(20)))
	}
	return in(op, uint32(min(int64(d.words[d.next]), mostBy(op))))
}

// someCode gives procedures without a fault.
func someCode(d *dice) []api.Instr {
	var code []api.Instr
	for range 1 + d.upTo(4) {
		begin := len(code)
		end := begin + 2 + d.upTo(1)*d.upTo(8)
		frame := uint32(4 * (1 + d.upTo(1)*d.upTo(1023)))
		code = append(code, in(api.OpEnter, frame))
		for len(code) < end-1 {
			code = append(code, someInstruction(d, begin, end, frame))
		}
		last := someInstruction(d, begin, end, frame)
		for !slices.Contains(enders(), last.Op) {
			last = someInstruction(d, begin, end, frame)
		}
		code = append(code, last)
	}
	return code
}

// someGiven gives code without a fault, and jumps and names that fit it.
func someGiven(d *dice) given {
	g := given{code: someCode(d)}
	for i, one := range g.code {
		switch {
		case one.Op == api.OpEnter && d.upTo(1) == 0:
			g.names = append(g.names, api.Export{Name: string(rune('a' + d.upTo(25))), At: uint32(i)})
		case one.Op != api.OpEnter && d.upTo(2) == 0:
			g.jumps = append(g.jumps, uint32(i))
		}
	}
	return g
}

// layStray lays something into what is given that is a fault most of the time.
func layStray(d *dice, g *given) {
	at := d.upTo(len(g.code) - 1)
	near := uint32(d.upTo(len(g.code) + 1))
	switch d.upTo(9) {
	case 0:
		g.code[at] = in(api.Op(d.upTo(61)), near)
	case 1:
		g.code[at].Arg = near
	case 2:
		g.code[at].Op = []api.Op{api.OpEnter, api.OpNop, api.OpEq, api.OpGoto}[d.upTo(3)]
	case 3:
		g.code[at].Arg += uint32(d.upTo(8) - 4)
	case 4:
		g.code = slices.Delete(g.code, at, at+1)
	case 5:
		g.code = slices.Insert(g.code, at, in(api.OpNop, 0))
	case 6:
		g.jumps = append(g.jumps, near)
	case 7:
		g.jumps = slices.Insert(g.jumps, d.upTo(len(g.jumps)), near)
	case 8:
		g.names = append(g.names, api.Export{Name: "x", At: near})
	case 9:
		g.names = slices.Insert(g.names, d.upTo(len(g.names)), api.Export{At: near})
	}
}

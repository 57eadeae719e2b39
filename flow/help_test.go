package flow_test

import (
	"iter"
	"slices"
	"strconv"
	"strings"
	"testing"

	"playpen/api"
	"playpen/flow"
	"playpen/isa"
)

// given is what the calls are asked of.
type given struct {
	code  []api.Instr
	jumps []uint32
}

func in(op api.Op, arg uint32) api.Instr { return api.Instr{Op: op, Arg: arg} }

// lines gives the code of a text like "0 enter 4, 1 const 7, leave 4"; the indices may be left out, but may not be wrong.
func lines(t testing.TB, source string) []api.Instr {
	t.Helper()
	var code []api.Instr
	for line := range strings.SplitSeq(source, ",") {
		words := strings.Fields(line)
		if index, err := strconv.Atoi(words[0]); err == nil {
			if index != len(code) {
				t.Fatalf("%q stands at %d", line, len(code))
			}
			words = words[1:]
		}
		op, is := isa.ByWord(words[0])
		arg := 0
		if len(words) > 1 {
			arg, _ = strconv.Atoi(words[1])
		}
		if !is {
			t.Fatalf("%q is no instruction", line)
		}
		code = append(code, in(op, uint32(arg)))
	}
	return code
}

// from gives a text's code, with jumps.
func from(t testing.TB, source string, jumps ...uint32) given {
	t.Helper()
	return given{lines(t, source), jumps}
}

// cloned gives the same with lists of its own.
func (g given) cloned() given {
	return given{slices.Clone(g.code), slices.Clone(g.jumps)}
}

// with gives the same with another instruction at an index.
func (g given) with(at int, turned api.Instr) given {
	g = g.cloned()
	g.code[at] = turned
	return g
}

// jumping gives the same with other jumps.
func (g given) jumping(jumps ...uint32) given {
	g = g.cloned()
	g.jumps = jumps
	return g
}

// times gives a text of so many of the same instruction, each with a comma behind it.
func times(count int, line string) string {
	return strings.Repeat(line+", ", count)
}

// told is what Depths tells.
type told struct {
	depths []int
	needs  []int
	at     int
	err    api.Errno
}

func asked(g given) told {
	depths, needs, at, err := flow.Depths(g.code, g.jumps)
	return told{depths, needs, at, err}
}

func sameTold(x, y told) bool {
	return slices.Equal(x.depths, y.depths) && slices.Equal(x.needs, y.needs) && x.at == y.at && x.err == y.err
}

func sameBlock(x, y api.Block) bool {
	return x.Begin == y.Begin && x.End == y.End && x.Depth == y.Depth && slices.Equal(x.Next, y.Next)
}

// wantDepths wants Depths to take the code, and to tell these depths and needs.
func wantDepths(t *testing.T, what string, g given, depths []int, needs ...int) {
	t.Helper()
	if got := asked(g); !sameTold(got, told{depths: depths, needs: needs}) {
		t.Errorf("%s: %v, want %v, %v", what, got, depths, needs)
	}
	check(t, g)
}

// wantFault wants Depths, Blocks and Heads to refuse the code, each with this error and place, and to tell nothing beside.
func wantFault(t *testing.T, what string, g given, at int, err api.Errno) {
	t.Helper()
	want := told{at: at, err: err}
	if got := asked(g); !sameTold(got, want) {
		t.Errorf("%s: Depths %v, want %v", what, got, want)
	}
	blocks, blocksAt, blocksErr := flow.Blocks(g.code, g.jumps)
	if len(blocks) != 0 || blocksAt != at || blocksErr != err {
		t.Errorf("%s: Blocks %v, %d, %d", what, blocks, blocksAt, blocksErr)
	}
	heads, headsAt, headsErr := flow.Heads(g.code, g.jumps)
	if len(heads) != 0 || headsAt != at || headsErr != err {
		t.Errorf("%s: Heads %v, %d, %d", what, heads, headsAt, headsErr)
	}
	if by := depthsBy(g); !sameTold(by, want) {
		t.Errorf("%s: by the chapter's words %v", what, by)
	}
}

// wantBlocks wants these blocks, and these heads.
func wantBlocks(t *testing.T, what string, g given, want []api.Block, heads ...int) {
	t.Helper()
	blocks, at, err := flow.Blocks(g.code, g.jumps)
	if !slices.EqualFunc(blocks, want, sameBlock) || at != 0 || err != api.OK {
		t.Errorf("%s: %v, %d, %d, want %v", what, blocks, at, err, want)
	}
	wantHeads(t, what, g, heads...)
	check(t, g)
}

// wantHeads wants these heads.
func wantHeads(t *testing.T, what string, g given, want ...int) {
	t.Helper()
	heads, at, err := flow.Heads(g.code, g.jumps)
	if !slices.Equal(heads, want) || at != 0 || err != api.OK {
		t.Errorf("%s: heads %v, %d, %d, want %v", what, heads, at, err, want)
	}
}

// wantNext wants an instruction to have these Next.
func wantNext(t *testing.T, what string, g given, at uint32, want ...uint32) {
	t.Helper()
	if next, err := flow.Next(g.code, g.jumps, at); !slices.Equal(next, want) || err != api.OK {
		t.Errorf("%s: Next of %d: %v, %d, want %v", what, at, next, err, want)
	}
}

// pair is an instruction and one of its Next.
type pair struct {
	from uint32
	to   uint32
}

// pairs gives what Ways goes through; the iterator may not be nil.
func pairs(t *testing.T, ways iter.Seq2[uint32, uint32]) []pair {
	t.Helper()
	if ways == nil {
		t.Fatal("the iterator is nil")
	}
	var list []pair
	for from, to := range ways {
		list = append(list, pair{from, to})
	}
	return list
}

// check holds all calls against the oracles, and what follows against what they told; it tells the error of Depths.
func check(t *testing.T, g given) api.Errno {
	t.Helper()
	want := depthsBy(g)
	if got := asked(g); !sameTold(got, want) {
		t.Fatalf("%v: Depths %v, want %v", g, got, want)
	}
	checkWays(t, g)
	checkBlocks(t, g, want)
	if want.err == api.OK {
		checkFollows(t, g)
	}
	return want.err
}

// checkWays holds Next and Ways against the oracle.
func checkWays(t *testing.T, g given) {
	t.Helper()
	_, findErr := findBy(g)
	var all []pair
	for _, at := range append([]uint32{1 << 14, 1 << 16, 1<<16 + 1, 1 << 31, 1<<32 - 1}, indices(len(g.code)+2)...) {
		next, err := flow.Next(g.code, g.jumps, at)
		switch {
		case findErr != api.OK:
			if len(next) != 0 || err != findErr {
				t.Fatalf("%v: Next of %d: %v, %d, want %d", g, at, next, err, findErr)
			}
		case int64(at) >= int64(len(g.code)):
			if len(next) != 0 || err != api.ErrArg {
				t.Fatalf("%v: Next of %d: %v, %d", g, at, next, err)
			}
		default:
			want := nextBy(g, at)
			if !slices.Equal(next, want) || err != api.OK {
				t.Fatalf("%v: Next of %d: %v, %d, want %v", g, at, next, err, want)
			}
			for _, to := range want {
				all = append(all, pair{at, to})
			}
		}
	}
	if got := pairs(t, flow.Ways(g.code, g.jumps)); !slices.Equal(got, all) {
		t.Fatalf("%v: Ways: %v, want %v", g, got, all)
	}
}

// checkBlocks holds Blocks and Heads against the oracles.
func checkBlocks(t *testing.T, g given, want told) {
	t.Helper()
	blocks, at, err := flow.Blocks(g.code, g.jumps)
	heads, headsAt, headsErr := flow.Heads(g.code, g.jumps)
	if at != want.at || err != want.err || headsAt != want.at || headsErr != want.err {
		t.Fatalf("%v: Blocks %d, %d, Heads %d, %d, want %d, %d", g, at, err, headsAt, headsErr, want.at, want.err)
	}
	var wantBlocks []api.Block
	var wantHeads []int
	if want.err == api.OK {
		wantBlocks = blocksBy(g, want.depths)
		wantHeads = headsBy(g, wantBlocks)
	}
	if !slices.EqualFunc(blocks, wantBlocks, sameBlock) {
		t.Fatalf("%v: Blocks %v, want %v", g, blocks, wantBlocks)
	}
	if !slices.Equal(heads, wantHeads) {
		t.Fatalf("%v: Heads %v, want %v", g, heads, wantHeads)
	}
}

// indices gives the numbers from 0 on, so many.
func indices(count int) []uint32 {
	var list []uint32
	for i := range count {
		list = append(list, uint32(i))
	}
	return list
}

// scattered gives so many words, always the same ones, from all over.
func scattered(count int) []uint32 {
	list := make([]uint32, count)
	state := uint64(0x9E3779B97F4A7C15)
	for i := range list {
		state ^= state << 13
		state ^= state >> 7
		state ^= state << 17
		list[i] = uint32(state * 0x2545F4914F6CDD1D >> 32)
	}
	return list
}

// dice hands out scattered words one by one, over and over.
type dice struct {
	words []uint32
	next  int
}

func (d *dice) upTo(most int) int {
	d.next = (d.next + 1) % len(d.words)
	return int(uint64(d.words[d.next]) * uint64(most+1) >> 32)
}

// plan is a procedure in the making, of which the depth of each instruction is laid down ahead of its targets.
type plan struct {
	code    []api.Instr
	depths  []int
	landing int // the depth at which its jumps come down
	wanted  int // the depth up to which words are put on more often than others take them
}

// lay puts an instruction in whose next one has a depth.
func (p *plan) lay(one api.Instr, next int) {
	p.code = append(p.code, one)
	p.depths = append(p.depths, next)
}

// layPlain puts in one that goes on at the next instruction.
func (p *plan) layPlain(d *dice) {
	depth := p.depths[len(p.depths)-1]
	for {
		op := api.Op(1 + d.upTo(58))
		if depth < p.wanted && d.upTo(2) > 0 {
			op = api.OpConst
		}
		takes, gives, kind := rowBy(op)
		if depth < takes || depth-takes+gives > 64 {
			continue
		}
		switch kind {
		case api.KindPlain, api.KindCall, api.KindBranch:
			p.lay(in(op, 0), depth-takes+gives)
			return
		}
	}
}

// layEnd puts in one that does not go on at the next instruction, which has any depth.
func (p *plan) layEnd(d *dice) {
	depth := p.depths[len(p.depths)-1]
	next := d.upTo(3)
	switch choice := d.upTo(3); {
	case choice == 0 && depth == 1:
		p.lay(in(api.OpLeave, p.code[0].Arg), next)
	case choice <= 1 && depth == p.landing+1:
		p.lay(in(api.OpJump, 0), next)
	case choice <= 2:
		p.lay(in(api.OpGoto, 0), next)
	default:
		p.lay(in(api.OpBreak, 0), next)
	}
}

// like gives one of the instructions inside the procedure that have a depth, if there is one.
func (p *plan) like(d *dice, depth int) (int, bool) {
	var list []int
	for i := 1; i < len(p.code); i++ {
		if p.depths[i] == depth {
			list = append(list, i)
		}
	}
	if len(list) == 0 {
		return 0, false
	}
	return list[d.upTo(len(list)-1)], true
}

// aim lays the targets in. A comparison without one becomes a store, which takes as many words.
func (p *plan) aim(d *dice, begin int) {
	for i, one := range p.code {
		takes, _, kind := rowBy(one.Op)
		if kind != api.KindBranch && kind != api.KindGoto {
			continue
		}
		if to, is := p.like(d, p.depths[i]-takes); is {
			p.code[i].Arg = uint32(begin + to)
		} else {
			p.code[i] = in(api.OpStore1, 0)
		}
	}
}

// someProc puts a procedure without a fault behind the code, of up to so many instructions inside, and some jumps.
func someProc(d *dice, g *given, most int) {
	begin := len(g.code)
	p := &plan{depths: []int{0}, landing: d.upTo(2), wanted: d.upTo(1) * d.upTo(8)}
	p.lay(in(api.OpEnter, uint32(4*(1+d.upTo(1)*d.upTo(1023)))), 0)
	for range d.upTo(most - 1) {
		if d.upTo(4) == 0 {
			p.layEnd(d)
		} else {
			p.layPlain(d)
		}
	}
	p.layEnd(d)
	p.aim(d, begin)
	jumps := slices.ContainsFunc(p.code, func(one api.Instr) bool { return one.Op == api.OpJump })
	for i := range p.code {
		if i > 0 && d.upTo(2) == 0 && (!jumps || p.depths[i] == p.landing) {
			g.jumps = append(g.jumps, uint32(begin+i))
		}
	}
	g.code = append(g.code, p.code...)
}

// someGiven gives procedures without a fault.
func someGiven(d *dice, most int) given {
	var g given
	for range 1 + d.upTo(2) {
		someProc(d, &g, most)
	}
	return g
}

// layStray lays something into what is given that may be a fault.
func layStray(d *dice, g *given) {
	at := d.upTo(len(g.code) - 1)
	near := uint32(d.upTo(len(g.code)))
	switch d.upTo(10) {
	case 0, 1, 2, 3:
		some := []api.Op{api.OpNop, api.OpConst, api.OpPop, api.OpDup, api.OpAdd, api.OpStore4, api.OpCall, api.OpArg, api.OpBreak}
		if g.code[at].Op != api.OpEnter {
			g.code[at] = in(some[d.upTo(len(some)-1)], 0)
		}
	case 4, 5:
		g.code[at].Arg = near
	case 6:
		g.code[at] = in(api.Op(d.upTo(61)), near)
	case 7:
		g.jumps = append(g.jumps, near)
		slices.Sort(g.jumps)
	case 8:
		g.code[at].Op = []api.Op{api.OpEq, api.OpGoto, api.OpJump, api.OpLeave}[d.upTo(3)]
	case 9:
		g.code = slices.Delete(g.code, at, at+1)
	case 10:
		if g.code[at].Op != api.OpEnter {
			g.code[at] = in(api.OpLeave, g.code[0].Arg)
		}
	}
}

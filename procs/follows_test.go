package procs_test

import (
	"testing"

	"playpen/api"
	"playpen/procs"
)

// checkFollows holds P13.7 and P13.8, of code that Find took.
func checkFollows(t *testing.T, g given, p *procs.Procs) {
	t.Helper()
	next := uint32(0)
	for i, proc := range p.All() {
		if proc.Begin != next || proc.End < proc.Begin+2 || proc.Need != 0 || !p.Begins(proc.Begin) {
			t.Fatalf("procedure %d: %v, behind %d", i, proc, next)
		}
		next = proc.End
		for at := proc.Begin; at < proc.End; at++ {
			if p.Of(at) != i || p.Begins(at) != (at == proc.Begin) {
				t.Fatalf("instruction %d of procedure %d: %d", at, i, p.Of(at))
			}
			one := g.code[at]
			if isStatic(one.Op) && (one.Arg <= proc.Begin || one.Arg >= proc.End) {
				t.Fatalf("procedure %d: %v: instruction %d goes out: %v", i, proc, at, one)
			}
		}
		for _, to := range p.Targets(i) {
			if to <= proc.Begin || to >= proc.End || !p.Legal(proc.Begin, to) || !p.Legal(proc.End-1, to) {
				t.Fatalf("procedure %d: %v: a jump goes out: %d", i, proc, to)
			}
		}
	}
	if int(next) != len(g.code) || p.Count() == 0 {
		t.Fatalf("the procedures end at %d, the code at %d", next, len(g.code))
	}
}

// P13.7, P13.8: over much scattered code without faults.
func TestScatteredCode(t *testing.T) {
	d := &dice{words: scattered(99991)}
	for range 3000 {
		if g := someGiven(d); check(t, g) != api.OK {
			t.Fatalf("%v has a fault", g)
		}
	}
}

// P13.1: over much scattered code with some faults, of all kinds.
func TestScatteredFaults(t *testing.T) {
	d := &dice{words: scattered(99991), next: 50}
	met := map[api.Errno]int{}
	for range 20000 {
		g := someGiven(d)
		for range 1 + d.upTo(2) {
			if len(g.code) > 0 {
				layStray(d, &g)
			}
		}
		met[check(t, g)]++
	}
	for _, err := range []api.Errno{
		api.OK, api.ErrOp, api.ErrOperand, api.ErrFirst, api.ErrFrame, api.ErrTarget, api.ErrEnds, api.ErrJumpTo, api.ErrExport,
	} {
		if met[err] < 100 {
			t.Errorf("error %d was met %d times", err, met[err])
		}
	}
}

// P13.1: over all code of up to five instructions of a few kinds, with jumps and names of all kinds beside it.
func TestShortCode(t *testing.T) {
	some := []api.Instr{in(api.OpEnter, 4), in(api.OpLeave, 4), in(api.OpGoto, 1), in(api.OpNe, 3), in(api.OpNop, 0)}
	beside := []given{{}, {jumps: []uint32{1, 3}}, {jumps: []uint32{2}, names: []api.Export{{At: 0}, {At: 2}}}}
	codes := [][]api.Instr{nil}
	for len(codes) > 0 {
		code := codes[0]
		codes = codes[1:]
		for _, g := range beside {
			g.code = code
			check(t, g)
		}
		if len(code) == 5 {
			continue
		}
		for _, one := range some {
			codes = append(codes, append(code[:len(code):len(code)], one))
		}
	}
}

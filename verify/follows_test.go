package verify_test

import (
	"slices"
	"testing"

	"playpen/api"
	"playpen/flow"
	"playpen/image"
	"playpen/isa"
	"playpen/procs"
	"playpen/verify"
)

// checkAgain holds P15.10: canonical bytes load again, and Take of the image gives the same.
func checkAgain(t *testing.T, im api.Image, m *verify.Module, k known) {
	t.Helper()
	b, err := image.Encode(m.Image())
	if err != api.OK || !slices.Equal(b, bytesBy(im, 0)) {
		t.Fatalf("%v: %d, %x", im, err, b)
	}
	loaded, at, err := verify.Load(b)
	if loaded == nil || at != 0 || err != api.OK {
		t.Fatalf("%v: its bytes do not load: %d, %d", im, at, err)
	}
	checkModule(t, im, loaded, k)
	taken, at, err := verify.Take(m.Image())
	if taken == nil || at != 0 || err != api.OK {
		t.Fatalf("%v: its image is not taken: %d, %d", im, at, err)
	}
	checkModule(t, im, taken, k)
}

// checkSound holds P15.11, by what the Module itself tells.
func checkSound(t *testing.T, m *verify.Module) {
	t.Helper()
	count := uint32(m.Count())
	list := m.Procs()
	holders := make([]int, count)
	for _, proc := range list {
		if proc.Need < 0 || proc.Need > api.MaxOps {
			t.Fatalf("the need of %v", proc)
		}
		for i := proc.Begin; i < proc.End; i++ {
			holders[i]++
			checkSoundAt(t, m, proc, i)
		}
		last, _ := m.At(proc.End - 1)
		if !slices.Contains([]api.Op{api.OpGoto, api.OpJump, api.OpLeave, api.OpBreak}, last.Op) {
			t.Fatalf("%v ends with %v", proc, last)
		}
	}
	for i, number := range holders {
		if number != 1 {
			t.Fatalf("instruction %d lies in %d procedures", i, number)
		}
	}
}

// checkSoundAt holds P15.11 of one instruction of a procedure.
func checkSoundAt(t *testing.T, m *verify.Module, proc api.Proc, i uint32) {
	t.Helper()
	one, is := m.At(i)
	info, _ := isa.Info(one.Op)
	if of, in := m.ProcOf(i); !is || !in || of != proc {
		t.Fatalf("%d: in %v, not in %v", i, of, proc)
	}
	if (one.Op == api.OpEnter) != (i == proc.Begin) || m.Begins(i) != (i == proc.Begin) {
		t.Fatalf("%d: %v in %v", i, one, proc)
	}
	depth := m.Depth(i)
	if depth < -1 || depth > proc.Need || depth >= 0 && info.Takes > depth {
		t.Fatalf("%d: %v at the depth %d, need %d", i, one, depth, proc.Need)
	}
	if m.Back(i) && depth < 1 {
		t.Fatalf("%d: a return point at the depth %d", i, depth)
	}
	for _, to := range leads(m, i, one, info.Kind) {
		if to <= proc.Begin || to >= proc.End {
			t.Fatalf("%d: %v leads to %d, out of %v", i, one, to, proc)
		}
		if depth >= 0 && m.Depth(to) != depth-info.Takes+info.Gives {
			t.Fatalf("%d: %v leads to %d from the depth %d to %d", i, one, to, depth, m.Depth(to))
		}
	}
}

// leads gives where an instruction leads to, by what a machine would do with it.
func leads(m *verify.Module, i uint32, one api.Instr, kind api.OpKind) []uint32 {
	switch kind {
	case api.KindGoto:
		return []uint32{one.Arg}
	case api.KindBranch:
		return []uint32{i + 1, one.Arg}
	case api.KindPlain, api.KindEnter, api.KindCall:
		return []uint32{i + 1}
	case api.KindJump:
		var list []uint32
		for _, to := range m.Image().Jumps {
			if m.Legal(i, to) {
				list = append(list, to)
			}
		}
		return list
	}
	return nil
}

// wellFormed tells whether chapters 8, 13 and 14 take an image, by their own calls.
func wellFormed(im api.Image) bool {
	if image.Check(im) != api.OK {
		return false
	}
	if _, _, err := procs.Find(im.Code, im.Jumps, im.Names); err != api.OK {
		return false
	}
	_, _, _, err := flow.Depths(im.Code, im.Jumps)
	return err == api.OK
}

// P2, P15.10, P15.11: over much scattered code that is well formed.
func TestScatteredImages(t *testing.T) {
	d := &dice{words: scattered(99991)}
	seen := map[string]int{}
	for n := range 3000 {
		im := someImage(d, 4+n%20)
		if check(t, im) != api.OK || !wellFormed(im) {
			t.Fatalf("%v has a fault", im)
		}
		count(mustTake(t, im), seen)
	}
	for _, what := range []string{"not reached", "return point", "call not reached", "jump", "leave", "break", "deep", "entry"} {
		if seen[what] < 200 {
			t.Errorf("%s: seen %d times", what, seen[what])
		}
	}
}

// count counts what is seen of a Module, so that one knows what was tested.
func count(m *verify.Module, seen map[string]int) {
	for i := range uint32(m.Count()) {
		one, _ := m.At(i)
		depth := m.Depth(i)
		switch {
		case depth == -1 && one.Op == api.OpCall:
			seen["call not reached"]++
		case depth == -1:
			seen["not reached"]++
		case one.Op == api.OpJump:
			seen["jump"]++
		case one.Op == api.OpLeave:
			seen["leave"]++
		case one.Op == api.OpBreak:
			seen["break"]++
		}
		if depth > 3 {
			seen["deep"]++
		}
		if m.Back(i) {
			seen["return point"]++
		}
	}
	seen["entry"] += len(m.Image().Names)
}

// P2, P15.1, P15.10: over much scattered code with some faults, of all kinds: taken just so.
func TestScatteredFaults(t *testing.T) {
	d := &dice{words: scattered(99991), next: 50}
	met := map[api.Errno]int{}
	for range 16000 {
		im := someImage(d, 12)
		for range 1 + d.upTo(2) {
			layStray(d, &im)
		}
		err := check(t, im)
		met[err]++
		if wellFormed(im) != (err == api.OK) {
			t.Fatalf("%v: %d", im, err)
		}
		if checkBy(im) != api.OK {
			continue
		}
		for _, gap := range []int{0, 1} {
			if got := checkLoad(t, bytesBy(im, gap)); got != err {
				t.Fatalf("%v: Load %d, Take %d", im, got, err)
			}
		}
	}
	for _, err := range []api.Errno{
		api.OK, api.ErrOp, api.ErrOperand, api.ErrSize, api.ErrNames, api.ErrFirst, api.ErrFrame, api.ErrTarget, api.ErrEnds,
		api.ErrJumpTo, api.ErrExport, api.ErrUnder, api.ErrMeet, api.ErrLeave,
	} {
		if met[err] < 50 {
			t.Errorf("error %d was met %d times", err, met[err])
		}
	}
}

// P15.10, P15.11: over long scattered code.
func TestScatteredLongImages(t *testing.T) {
	d := &dice{words: scattered(99991), next: 7}
	for range 25 {
		if im := someImage(d, 300); check(t, im) != api.OK {
			t.Fatalf("%v has a fault", im)
		}
	}
}

// P15.1, P15.10, P15.11: over all code of up to five instructions of a few kinds behind an enter, with and without jumps.
func TestShortCode(t *testing.T) {
	some := []api.Instr{in(api.OpConst, 0), in(api.OpCall, 0), in(api.OpEq, 1), in(api.OpNe, 4), in(api.OpGoto, 2), in(api.OpJump, 0), in(api.OpLeave, 4)}
	met := map[api.Errno]int{}
	codes := [][]api.Instr{{in(api.OpEnter, 4)}}
	for len(codes) > 0 {
		code := codes[0]
		codes = codes[1:]
		met[check(t, api.Image{Code: code, Stack: 64})]++
		met[check(t, api.Image{Code: code, Jumps: []uint32{1, 3}, Stack: 64})]++
		if len(code) == 6 {
			continue
		}
		for _, one := range some {
			codes = append(codes, append(code[:len(code):len(code)], one))
		}
	}
	for _, err := range []api.Errno{api.OK, api.ErrUnder, api.ErrMeet, api.ErrLeave, api.ErrEnds, api.ErrTarget} {
		if met[err] < 100 {
			t.Errorf("error %d was met %d times", err, met[err])
		}
	}
}

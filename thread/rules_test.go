package thread_test

import (
	"bytes"
	"slices"
	"sync"
	"testing"

	"playpen/api"
	"playpen/thread"
)

// P24.5, R1, R2: a machine that is nil or that neither New nor Use made: ErrNil ahead of all other errors, and nothing beside it; nothing comes of any call.
func TestNoMachine(t *testing.T) {
	fits := stands(example(t), 1, 184)
	for what, none := range noMachines(t) {
		for range 2 {
			for _, at := range list(0, 1, 0xFFFFFFFF) {
				for _, count := range []int{0, 15, 16} {
					if err := none.Start(at, make([]uint32, count)); err != api.ErrNil {
						t.Errorf("%s: Start(%d, %d arguments): %d", what, at, count, err)
					}
				}
			}
			for _, fuel := range []int{-1, 0, 1, api.MaxFuel, api.MaxFuel + 1} {
				for _, given := range [][]api.Reply{nil, replies(1), {tooMany()}, {tooLong()}} {
					if r, err := none.Go(fuel, given); err != api.ErrNil || !sameResult(r, api.Result{}) {
						t.Errorf("%s: Go(%d): %+v, %d", what, fuel, r, err)
					}
				}
			}
			for _, s := range []api.State{{}, fits, {Life: 9}} {
				if err := none.Put(s); err != api.ErrNil {
					t.Errorf("%s: Put: %d", what, err)
				}
			}
			if s := none.State(); !sameState(s, api.State{}) {
				t.Errorf("%s: State: %+v", what, s)
			}
			none.Log(true)
			if got := none.Touched(); len(got) != 0 {
				t.Errorf("%s: Touched: %v", what, got)
			}
			none.Log(false)
			if got := none.Cells(); !sameCode(got, api.Threaded{}) {
				t.Errorf("%s: Cells: %v", what, got)
			}
		}
	}
}

// P24.5: nothing that is asked of a copy by hand is seen in the machine that it was copied from.
func TestCopyByHand(t *testing.T) {
	x := machine(t, example(t))
	x.Log(true)
	wantOK(t, x.Start(0, list(3)))
	x.Go(5, nil)
	before := x.State()
	byHand := *x
	byHand.Log(false)
	byHand.Touched()
	byHand.Start(0, nil)
	byHand.Go(100, replies(1))
	byHand.Put(before)
	wantState(t, x, before)
	wantTouched(t, x, writes(188, 4))
	x.Go(2, nil)
	wantTouched(t, x, reads(196, 4))
}

// R2: a call that is at fault in two ways tells the first error, and leaves the machine and its log as they were, in the midst of a cell too.
func TestErrorsInOrder(t *testing.T) {
	m := example(t)
	for fuel := range 27 {
		x, y := machine(t, m, grant(1, 1)), machine(t, m, grant(1, 1))
		for _, one := range []*thread.Machine{x, y} {
			one.Log(true)
			wantOK(t, one.Start(0, list(20)))
			one.Go(fuel, replies(9))
		}
		for _, given := range [][]api.Reply{nil, replies(1), {tooMany()}, {reply(1), tooLong()}} {
			for _, much := range []int{-1, api.MaxFuel + 1} {
				if r, err := x.Go(much, given); err != api.ErrFuel || !sameResult(r, api.Result{}) {
					t.Errorf("Go(%d): %+v, %d", much, r, err)
				}
			}
		}
		if r, err := x.Go(1, []api.Reply{reply(1), tooLong()}); err != api.ErrReply || !sameResult(r, api.Result{}) {
			t.Errorf("Go: %+v, %d", r, err)
		}
		if err := x.Start(1, make([]uint32, 16)); err != api.ErrEntry {
			t.Errorf("Start: %d", err)
		}
		if err := x.Start(0, make([]uint32, 16)); err != api.ErrArgs {
			t.Errorf("Start: %d", err)
		}
		if err := x.Put(api.State{Life: 9}); err != api.ErrState {
			t.Errorf("Put: %d", err)
		}
		wantState(t, x, y.State())
		wantTouched(t, x, y.Touched())
	}
}

// roomyState gives the same state with something in the spare room of its lists.
func roomyState(s api.State) api.State {
	s.Ops = append(slices.Clone(s.Ops), 77, 78)[:len(s.Ops)]
	s.Data = append(slices.Clone(s.Data), 77, 78)[:len(s.Data)]
	return s
}

// roomyCode gives the same threaded code likewise.
func roomyCode(x api.Threaded) api.Threaded {
	x.Cells = append(slices.Clone(x.Cells), api.Cell{To: 77})[:len(x.Cells)]
	x.Begins = append(slices.Clone(x.Begins), 77)[:len(x.Begins)]
	return x
}

// roomyReplies gives the same replies likewise.
func roomyReplies(all []api.Reply) []api.Reply {
	all = clonedReplies(all)
	for i := range all {
		writes := append(all[i].Writes, write(77, 77))[:len(all[i].Writes)]
		for j, w := range writes {
			writes[j].Bytes = append(slices.Clone(w.Bytes), 77, 78)[:len(w.Bytes)]
		}
		all[i].Writes = writes
	}
	return append(all, reply(77))[:len(all)]
}

// whole gives a copy of a list with so much of its spare room.
func whole[E any](all []E, spare int) []E { return slices.Clone(all[:len(all)+spare]) }

// wantRoom wants the spare room of roomy replies to be as it was.
func wantRoom(t *testing.T, all []api.Reply) {
	t.Helper()
	for _, r := range all {
		for _, w := range r.Writes {
			if !bytes.Equal(w.Bytes[len(w.Bytes):len(w.Bytes)+2], []byte{77, 78}) {
				t.Fatal("a write's spare room changed")
			}
		}
		if w := r.Writes[len(r.Writes) : len(r.Writes)+1][0]; w.At != 77 {
			t.Fatal("a reply's spare room changed")
		}
	}
	if all[len(all) : len(all)+1][0].Value != 77 {
		t.Fatal("the replies' spare room changed")
	}
}

// R3: arguments stay as they are, the spare room of their lists too.
func TestArgumentsStay(t *testing.T) {
	for round := range uint64(300) {
		d := newDice(100000 + round)
		m := d.someModule(t, 20)
		grants := append(d.someGrants(), grant(77, 7))
		grants = grants[:len(grants)-1]
		keptGrants := whole(grants, 1)
		code := roomyCode(d.someCover(t, m))
		keptCells, keptBegins := whole(code.Cells, 1), whole(code.Begins, 1)
		x := using(t, m, code, grants...)
		x.Log(true)
		for range 6 {
			s, given := roomyState(d.someState(m)), roomyReplies(d.someReplies(4))
			args := append(d.someArgs(), 77)
			args = args[:len(args)-1]
			keptOps, keptData, keptArgs, keptReplies := whole(s.Ops, 2), whole(s.Data, 2), whole(args, 1), clonedReplies(given)
			wantOK(t, x.Start(d.someBegin(m), args))
			x.Go(d.upTo(9), given)
			wantOK(t, x.Put(s))
			x.Go(d.upTo(20), given)
			x.Go(d.upTo(20), append(given[:len(given):len(given)], tooMany()))
			if !slices.Equal(whole(s.Ops, 2), keptOps) || !bytes.Equal(whole(s.Data, 2), keptData) || !slices.Equal(whole(args, 1), keptArgs) || !sameReplies(given, keptReplies) || !slices.Equal(whole(grants, 1), keptGrants) {
				t.Fatalf("PC %d: an argument changed", s.PC)
			}
			wantRoom(t, given)
		}
		if !slices.Equal(whole(code.Cells, 1), keptCells) || !slices.Equal(whole(code.Begins, 1), keptBegins) {
			t.Fatal("the threaded code changed")
		}
	}
}

// R3: what was handed in may be written over behind the call: nothing of it is seen in the machine or in what it answered. And what was answered may be: nothing of it is seen in the machine, nor in other answers.
func TestNothingIsShared(t *testing.T) {
	for round := range uint64(300) {
		d := newDice(110000 + round)
		m := d.someModule(t, 20)
		grants := d.someGrants()
		handed := append(slices.Clone(grants), grant(99, 1))
		code := d.someCover(t, m)
		ownCode := roomyCode(code)
		x, y := using(t, m, ownCode, handed[:len(grants)]...), using(t, m, code, grants...)
		spoil(handed, grant(0, 15))
		spoilCode(ownCode)
		x.Log(true)
		y.Log(true)
		for range 6 {
			args, at := d.someArgs(), d.someBegin(m)
			own := append(slices.Clone(args), 5)
			wantOK(t, x.Start(at, own[:len(args)]))
			wantOK(t, y.Start(at, args))
			spoil(own, 0x77777777)
			if d.upTo(1) == 0 {
				s := d.someState(m)
				own := roomyState(s)
				wantOK(t, x.Put(own))
				wantOK(t, y.Put(s))
				spoilState(own)
			}
			for range 3 {
				fuel, given := d.upTo(20), d.someReplies(4)
				own := roomyReplies(given)
				got, _ := x.Go(fuel, own)
				kept := clonedResult(got)
				spoilReplies(own)
				want, _ := y.Go(fuel, given)
				if !sameResult(got, want) {
					t.Fatalf("%+v, want %+v", got, want)
				}
				spoilState(x.State())
				spoilCode(x.Cells())
				if !sameResult(got, kept) {
					t.Fatal("a state has a part in a result")
				}
				spoilResult(got)
				wantState(t, x, y.State())
			}
			if d.upTo(1) == 0 {
				touched := x.Touched()
				wantTouched(t, y, touched)
				spoil(touched, api.Touch{At: 77})
			}
		}
		wantTouched(t, x, y.Touched())
		if !sameCode(x.Cells(), code) {
			t.Fatalf("%v became %v", code, x.Cells())
		}
	}
}

// R3: the lists of one result have no part in one another, and earlier answers stay as they were, whatever the machine does later.
func TestAnswersStay(t *testing.T) {
	m := asker(t)
	x := machine(t, m, grant(1, 3), grant(2, 3))
	x.Log(true)
	wantOK(t, x.Start(0, list(1, 2)))
	fresh, code := x.State(), x.Cells()
	keptFresh, keptCode := clonedState(fresh), clonedCode(code)
	r, _ := x.Go(100, replies(10, 20))
	if len(r.Events) != 2 || r.End != api.EndReply || len(r.Ask.Args) != 3 {
		t.Fatalf("%+v", r)
	}
	kept := clonedResult(r)
	touched := x.Touched()
	keptTouched := slices.Clone(touched)
	again, _ := x.Go(0, nil)
	keptAgain := clonedResult(again)
	s := x.State()
	keptS := clonedState(s)
	x.Go(100, replies(30))
	wantOK(t, x.Start(0, many(15)))
	x.Go(100, replies(7, 8, 9))
	x.Touched()
	if !sameResult(r, kept) || !sameResult(again, keptAgain) || !sameState(s, keptS) || !sameState(fresh, keptFresh) || !slices.Equal(touched, keptTouched) || !sameCode(code, keptCode) {
		t.Error("an earlier answer became another one")
	}
	spoil(r.Events[0].Args, 77)
	if !sameEvent(r.Events[1], kept.Events[1]) || !sameEvent(r.Ask, kept.Ask) {
		t.Error("the words of an event have a part in those of others")
	}
	spoil(r.Events[1].Args, 77)
	if !sameEvent(r.Ask, kept.Ask) || !sameResult(again, keptAgain) {
		t.Error("the words of an event have a part in the Ask")
	}
	spoil(s.Ops, 77)
	if !bytes.Equal(s.Data, keptS.Data) {
		t.Error("the words of a state have a part in its data")
	}
	spoil(code.Cells, api.Cell{To: 77})
	if !slices.Equal(code.Begins, keptCode.Begins) {
		t.Error("the cells of threaded code have a part in its other list")
	}
}

// P24.3: two machines of one module in turns, with other grants, do not see one another: each does what it does alone.
func TestTwoInTurns(t *testing.T) {
	for round := range uint64(200) {
		d := newDice(120000 + round)
		m := d.someModule(t, 20)
		before, digest, procs := m.Image(), m.Digest(), m.Procs()
		both := []*crew{someCrew(t, d, m, d.someGrants()...), crewOf(t, m, d.someGrants()...), crewOf(t, m)}
		for range 30 {
			p := both[d.upTo(2)]
			switch d.upTo(5) {
			case 0:
				p.Start(d.someBegin(m), d.someArgs())
			case 1:
				p.Put(d.someState(m))
			case 2:
				p.Log(d.upTo(2) > 0)
			case 3:
				p.Touched()
			default:
				p.Go(d.upTo(12), d.someReplies(3))
			}
			for _, one := range both {
				one.hold("another's call")
			}
		}
		for _, one := range both {
			one.Touched()
		}
		if !sameImage(m.Image(), before) || m.Digest() != digest || !slices.Equal(m.Procs(), procs) {
			t.Fatalf("%v became %v", before, m.Image())
		}
	}
}

// P24.3, R4: machines of one module may go side by side.
func TestSideBySide(t *testing.T) {
	m := module(t, 4096, `0 enter 68, 1 local 72, 2 load4, 3 const 0, 4 ne 7, 5 const 1, 6 leave 68,
		7 local 72, 8 load4, 9 dup, 10 const 1, 11 sub, 12 arg 0, 13 const 0, 14 call, 15 mul, 16 leave 68`)
	var all sync.WaitGroup
	for n := range uint32(12) {
		x := machine(t, m)
		all.Go(func() {
			product := uint32(1)
			for i := range n {
				product *= i + 1
			}
			x.Log(true)
			for range 50 {
				x.Start(0, list(n))
				if r, err := x.Go(1000, nil); err != api.OK || r.End != api.EndDone || r.Value != product || r.Used != int(n)*15+7 {
					t.Errorf("%d: %+v, %d", n, r, err)
				}
				// The last call loads a word and leaves; each other one loads two, lays down an argument and where it comes back, and leaves.
				if got := len(x.Touched()); got != int(n)*20+8 {
					t.Errorf("%d: %d touched", n, got)
				}
			}
		})
	}
	all.Wait()
}

// R1: no call panics, at whatever it is given, one behind the other; and each does what its promise says.
func FuzzEveryCall(f *testing.F) {
	f.Add(uint64(1), []byte{0, 0, 4, 20, 5, 4, 1})
	f.Add(uint64(7), []byte{2, 1, 0, 3, 4, 255, 1, 0, 3, 9, 4, 7, 5, 2, 0, 4, 3})
	f.Add(uint64(30), []byte{2, 1, 1, 200, 4, 12, 6, 9, 4, 1, 4, 1, 4, 0, 3, 0, 5, 7, 16, 8, 250})
	f.Fuzz(func(t *testing.T, seed uint64, calls []byte) {
		d := newDice(seed)
		m := d.someModule(t, 24)
		p := someCrew(t, d, m, d.someGrants()...)
		for i := 0; i+1 < len(calls) && i < 80; i += 2 {
			arg := calls[i+1]
			switch calls[i] % 9 {
			case 0:
				p.Start(d.someBegin(m), make([]uint32, arg%18))
			case 1:
				s := d.someState(m)
				if arg >= 128 {
					turnPart(d, m, &s)
				}
				p.Put(s)
			case 2:
				p.Log(arg%2 == 1)
			case 3:
				p.Touched()
			case 6:
				p.Go(int(int8(arg)), append(d.someReplies(2), tooLong()))
			case 7:
				p.Start(uint32(arg), d.someArgs())
			case 8:
				p.Go([]int{-1, 1 << 40, 65537, int(int8(arg))}[arg%4], d.someReplies(2))
			default:
				p.Go(int(arg), d.someReplies(4))
			}
		}
		p.State()
		p.Touched()
		useAsCheck(t, m, threadedOf(calls))
		stray := d.someCover(t, m)
		d.turnNumber(&stray)
		useAsCheck(t, m, stray)
	})
}

// threadedOf makes threaded code of bytes: small numbers, or such near the greatest one.
func threadedOf(raw []byte) api.Threaded {
	number := func(b byte) uint32 { return uint32(int8(b)) }
	var x api.Threaded
	for seven := range slices.Chunk(raw[:min(len(raw)/7*7, 210)], 7) {
		thing := api.Fused{At: number(seven[0]), Len: number(seven[1]), Kind: api.FuseKind(seven[2]), Op: api.Op(seven[3]), A: number(seven[4]), B: number(seven[5])}
		x.Cells = append(x.Cells, api.Cell{Fused: thing, To: number(seven[6])})
	}
	for _, b := range raw[len(x.Cells)*7:] {
		x.Begins = append(x.Begins, number(b))
	}
	return x
}

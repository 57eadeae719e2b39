package step_test

import (
	"fmt"
	"slices"
	"testing"

	"playpen/api"
	"playpen/isa"
	"playpen/step"
	"playpen/verify"
)

// someModule gives a scattered module.
func (d *dice) someModule(t testing.TB, most int) made {
	t.Helper()
	for {
		im := d.someImage(most)
		if m, _, err := verify.Take(im); err == api.OK {
			return made{m, bookOf(im)}
		}
	}
}

// kindOf tells what came of a step apart from other things that could have come of the same operation.
func kindOf(m made, s, got api.State, turn api.Turn) string {
	switch {
	case got.Life == api.LifeFault:
		return fmt.Sprint("fault ", got.Fault)
	case turn.Waits:
		return "waits"
	case turn.Made:
		return "made"
	case got.Life == api.LifeDone:
		return "done"
	}
	if one := m.image.Code[s.PC]; isBranch(one.Op) && got.PC == one.Arg {
		return "goes"
	}
	return "plain"
}

// wanted tells what may come of each operation, with its word.
func wanted() []string {
	var list []string
	for op := api.OpNop; op <= api.LastOp; op++ {
		row, _ := isa.Info(op)
		if op != api.OpBreak {
			list = append(list, row.Word+" plain")
		}
		if isBranch(op) {
			list = append(list, row.Word+" goes")
		}
		for _, kind := range faultsBy()[op] {
			list = append(list, fmt.Sprint(row.Word, " fault ", kind))
		}
	}
	return append(list, "call made", "call waits", "leave done")
}

// P18.2, P18.4 to P18.10: much scattered modules, states, grants and replies, all against the book; all that may come of an operation has come of it.
func TestScattered(t *testing.T) {
	seen := map[string]int{}
	for round := range uint64(3000) {
		d := newDice(100 + round)
		m := d.someModule(t, 24)
		for range 80 {
			s := d.someState(m)
			if !m.fits(s) || !step.Fits(m.Module, s) {
				t.Fatalf("%+v does not fit", s)
			}
			got, turn := check(t, m, d.someGrants(), s, d.someReplies())
			if s.Life == api.LifeRuns {
				row, _ := isa.Info(m.image.Code[s.PC].Op)
				seen[row.Word+" "+kindOf(m, s, got, turn)]++
			}
		}
	}
	for _, kind := range wanted() {
		if seen[kind] < 20 {
			t.Errorf("%s: %d times", kind, seen[kind])
		}
	}
}

// P18.3, P18.4, P18.6: whole runs of scattered modules, from Start on, hand in hand with the book.
func TestScatteredRuns(t *testing.T) {
	taken, ends := 0, map[api.Life]int{}
	for round := range uint64(1500) {
		d := newDice(10000 + round)
		m := d.someModule(t, 16)
		grants := d.someGrants()
		s := fresh(t, m)
		if !sameState(s, m.fresh()) {
			t.Fatalf("%v: the fresh state is %+v", m.image, s)
		}
		for range 3 {
			at, args := m.procs[d.upTo(len(m.procs)-1)].Begin, make([]uint32, d.upTo(15))
			for i := range args {
				args[i] = d.someWord()
			}
			s = checkStart(t, m, s, at, args)
			for range 80 {
				next, turn := check(t, m, grants, s, d.someReplies())
				if turn.Took {
					taken++
				}
				if s = next; s.Life != api.LifeRuns {
					break
				}
			}
			ends[s.Life]++
		}
	}
	if taken < 20000 || ends[api.LifeDone] < 100 || ends[api.LifeFault] < 100 || ends[api.LifeRuns] < 100 {
		t.Errorf("%d instructions taken, ends %v", taken, ends)
	}
}

// checkStart holds Start against the book, and what it answers against P18.6; without an error it gives the state behind it.
func checkStart(t testing.TB, m made, s api.State, at uint32, args []uint32) api.State {
	t.Helper()
	want, wantErr := m.start(s, at, args)
	got, err := step.Start(m.Module, s, at, args)
	if err != wantErr || !sameState(got, want) {
		t.Fatalf("%v: Start(%d, %x): %+v, %d, want %+v, %d", m.image, at, args, got, err, want, wantErr)
	}
	if err == api.OK && (!step.Fits(m.Module, got) || !m.fits(got)) {
		t.Fatalf("%v: Start(%d, %x): what is answered does not fit", m.image, at, args)
	}
	return got
}

// P18.5: nothing but the first reply is looked at, and the order of the grants does not count.
func TestOnlyTheFirstReply(t *testing.T) {
	made := 0
	for round := range uint64(800) {
		d := newDice(20000 + round)
		m := d.someModule(t, 20)
		for range 20 {
			s, grants, replies := d.someState(m), d.someGrants(), d.someReplies()
			got, turn := check(t, m, grants, s, replies)
			other := slices.Clone(grants)
			slices.Reverse(other)
			if len(replies) > 0 {
				replies = append(replies[:1:1], d.someReplies()...)
			}
			again, turnAgain, err := step.Step(m.Module, other, s, replies)
			if err != api.OK || !sameState(got, again) || !sameTurn(turn, turnAgain) {
				t.Fatalf("PC %d: %+v, %d, %+v", s.PC, turnAgain, err, turn)
			}
			if turn.Made {
				made++
			}
		}
	}
	if made < 50 {
		t.Errorf("%d calls made", made)
	}
}

// P18.4, P18.5: grants that a call does not ask for change nothing; replies change nothing where no system call of a granted number is made.
func TestWhatIsNotAsked(t *testing.T) {
	for round := range uint64(600) {
		d := newDice(30000 + round)
		m := d.someModule(t, 20)
		for range 20 {
			s := d.someState(m)
			grants, replies := d.someGrants(), d.someReplies()
			got, turn := check(t, m, grants, s, replies)
			var less []api.Grant
			if turn.Made || turn.Waits {
				x, _ := grantedBy(grants, turn.Event.Number)
				less = append(less, x)
			}
			again, turnAgain, err := step.Step(m.Module, less, s, replies)
			if err != api.OK || !sameState(got, again) || !sameTurn(turn, turnAgain) {
				t.Fatalf("PC %d: with fewer grants %+v, %d, %+v", s.PC, turnAgain, err, turn)
			}
			if turn.Made || turn.Waits {
				continue
			}
			again, turnAgain, err = step.Step(m.Module, grants, s, nil)
			if err != api.OK || !sameState(got, again) || !sameTurn(turn, turnAgain) {
				t.Fatalf("PC %d: without replies %+v, %d, %+v", s.PC, turnAgain, err, turn)
			}
		}
	}
}

// P18.8: behind all calls a module answers as before.
func TestModuleStays(t *testing.T) {
	for round := range uint64(100) {
		d := newDice(40000 + round)
		m := d.someModule(t, 20)
		before, digest, procs := m.Image(), m.Digest(), m.Procs()
		for range 20 {
			s := d.someState(m)
			check(t, m, d.someGrants(), s, d.someReplies())
			checkStart(t, m, s, 0, []uint32{1, 2})
			spoilState(fresh(t, m))
		}
		if !sameImage(m.Image(), before) || m.Digest() != digest || !slices.Equal(m.Procs(), procs) {
			t.Fatalf("%v became %v", before, m.Image())
		}
	}
}

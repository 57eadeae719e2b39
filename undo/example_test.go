package undo_test

import (
	"testing"

	"playpen/api"
	"playpen/undo"
)

// began gives the run of the chapter's examples behind its Start, with so many instructions kept.
func began(t testing.TB, keep int) *undo.Run {
	t.Helper()
	x := runOf(t, sample(t), keep, grant(1, 1))
	wantOK(t, x.Start(0, list(5)))
	return x
}

// P25.3, P25.4, P25.6: the first example.
func TestExample1(t *testing.T) {
	x := began(t, 4)
	was := word(x.State().Data, 188)
	wantResult(t, x, 100, nil, api.Result{End: api.EndReply, At: 5, Used: 5, Ask: event(5, 1, 0, 5)})
	wantPast(t, x, 4, 0)
	if now := word(x.State().Data, 188); now != 5 || now == was {
		t.Errorf("the word at 188 is %d", now)
	}
	wantOK(t, x.Back(1))
	if s := x.State(); s.PC != 4 || len(s.Ops) != 0 {
		t.Error(shown(s))
	}
	wantPast(t, x, 3, 1)
	wantErr(t, "Back(4)", x.Back(4), api.ErrBack)
	wantOK(t, x.Back(3))
	if s := x.State(); s.PC != 1 || s.SP != 184 || word(s.Data, 188) != was {
		t.Error(shown(s))
	}
	wantPast(t, x, 0, 4)
}

// P25.5, P25.3: the second example.
func TestExample2(t *testing.T) {
	x := began(t, 4)
	x.Go(100, nil)
	wantOK(t, x.Back(4))
	wantOK(t, x.Again(2))
	if s := x.State(); s.PC != 3 || word(s.Data, 188) != 0 {
		t.Error(shown(s))
	}
	wantPast(t, x, 2, 2)
	wantResult(t, x, 1, nil, api.Result{End: api.EndFuel, At: 4, Used: 1})
	if s := x.State(); word(s.Data, 188) != 5 {
		t.Error(shown(s))
	}
	wantPast(t, x, 3, 0)
	wantErr(t, "Again(1)", x.Again(1), api.ErrAgain)
}

// P25.4, P25.5, P25.6: the third example.
func TestExample3(t *testing.T) {
	x := began(t, 4)
	made := event(5, 1, 9, 5)
	wantResult(t, x, 100, replies(9), api.Result{End: api.EndDone, At: 6, Value: 9, Used: 7, Replies: 1, Events: []api.Event{made}})
	wantEvents(t, x, made)
	done := x.State()
	wantOK(t, x.Back(2))
	if s := x.State(); s.PC != 5 || s.Life != api.LifeRuns || s.Value != 0 {
		t.Error(shown(s))
	}
	wantEvents(t, x)
	wantOK(t, x.Again(2))
	if s := x.State(); s.Life != api.LifeDone || !sameState(s, done) {
		t.Error(shown(s))
	}
	wantEvents(t, x, made)
}

// P25.1: the fourth example.
func TestExample4(t *testing.T) {
	for _, keep := range []int{0, 65537} {
		if x, err := undo.New(sample(t).Module, []api.Grant{grant(1, 1)}, keep); x != nil || err != api.ErrKeep {
			t.Errorf("keep %d: %v, %d", keep, x, err)
		}
	}
}

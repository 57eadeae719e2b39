package mem_test

import (
	"slices"
	"testing"

	"playpen/api"
	"playpen/mem"
)

// P9.7: the document's example; what is taken out is gone, and the log goes on.
func TestLogExample(t *testing.T) {
	m, _ := mem.New(8)
	m.Load2(255)
	m.Log(true)
	m.Load2(255)
	m.Store1(7, 9)
	if got := m.Touched(); !slices.Equal(got, []api.Touch{{At: 255}, {At: 0}, {At: 7, Write: true}}) {
		t.Errorf("Touched: %v", got)
	}
	if got := m.Touched(); len(got) != 0 {
		t.Errorf("Touched again: %v", got)
	}
	m.Load1(300)
	if got := m.Touched(); !slices.Equal(got, []api.Touch{{At: 44}}) {
		t.Errorf("Touched, later: %v", got)
	}
}

// P9.7: Log empties the log, whatever it was and becomes.
func TestLogOnAndOff(t *testing.T) {
	m, _ := mem.New(8)
	m.Load1(1)
	if got := m.Touched(); len(got) != 0 {
		t.Errorf("a new segment's log: %v", got)
	}
	for _, x := range []struct {
		first, second bool
		want          []api.Touch
	}{
		{true, true, []api.Touch{{At: 2}}}, {false, true, []api.Touch{{At: 2}}}, {true, false, nil}, {false, false, nil},
	} {
		m.Log(x.first)
		m.Load1(1)
		m.Log(x.second)
		if got := m.Touched(); len(got) != 0 {
			t.Errorf("Log(%t), Log(%t): %v", x.first, x.second, got)
		}
		m.Log(x.first)
		m.Load1(1)
		m.Log(x.second)
		m.Load1(2)
		if got := m.Touched(); !slices.Equal(got, x.want) {
			t.Errorf("Log(%t), Log(%t): %v", x.first, x.second, got)
		}
		m.Load1(3)
		if got := m.Touched(); len(got) != len(x.want) {
			t.Errorf("behind Touched: %v", got)
		}
	}
}

// P9.7: what is touched while the log is full is not noted; one call may fill it and go on.
func TestFullLog(t *testing.T) {
	for _, short := range []int{0, 1, 2, 3, 4, 5, 100} {
		w := twinOf(t, filled(256))
		w.turn(true)
		for range 15 {
			w.read(t, 9, 4096)
		}
		w.write(t, 7, filled(4096-short))
		for range 3 {
			w.store(0xFE, 0x11223344, 4)
			w.load(t, 3, 2)
		}
		w.copy(t, 200, 100, 200)
		if len(w.log) != 65536 {
			t.Fatalf("the twin's log has %d", len(w.log))
		}
		w.check(t)
		w.load(t, 77, 1)
		w.copy(t, 1, 2, 3)
		w.check(t)
		for range 20 {
			w.copy(t, 5, 6, 4096)
		}
		w.check(t)
	}
}

// P9.7: Log(true) gives a full log its room again.
func TestFullLogBegunAnew(t *testing.T) {
	w := twinOf(t, filled(512))
	w.turn(true)
	for range 9 {
		w.copy(t, 5, 6, 4096)
	}
	w.turn(true)
	w.store(510, 0xAABBCCDD, 4)
	w.check(t)
}

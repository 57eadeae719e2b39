package mem

import "playpen/api"

// Log begins a log of the bytes that are touched, or ends it.
func (m *Memory) Log(on bool) {
	if !m.isMade() {
		return
	}
	m.logs, m.touched = on, nil
}

// Touched tells what was touched since the last Touched, while it was noted.
func (m *Memory) Touched() []api.Touch {
	if !m.isMade() {
		return nil
	}
	taken := m.touched
	m.touched = nil
	return taken
}

// note writes the log: touch is asked for each touched place, in their order, and only while the log is on and has room.
func (m *Memory) note(count int, touch func(i int) api.Touch) {
	if !m.logs {
		return
	}
	for i := range min(count, api.MaxTouches-len(m.touched)) {
		m.touched = append(m.touched, touch(i))
	}
}

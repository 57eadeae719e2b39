package run

import "playpen/api"

// Log begins a log of the bytes that are touched, or ends it.
func (m *Machine) Log(on bool) {
	if !m.isMade() {
		return
	}
	m.logs, m.noted = on, nil
	m.memory.Log(on)
}

// Touched tells the log, and takes out what it has.
func (m *Machine) Touched() []api.Touch {
	if !m.isMade() {
		return nil
	}
	m.gather()
	taken := m.noted
	m.noted = nil
	return taken
}

// gather takes what memory has noted into the machine's own part of the log, as much as there is room for.
func (m *Machine) gather() {
	later := m.memory.Touched()
	room := api.MaxTouches - len(m.noted)
	m.noted = append(m.noted, later[:min(len(later), room)]...)
}

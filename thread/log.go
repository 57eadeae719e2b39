package thread

import "playpen/api"

// Log begins a log of the bytes that are touched, or ends it.
func (x *Machine) Log(on bool) {
	if !x.isMade() {
		return
	}
	x.logs, x.noted = on, nil
	x.memory.Log(on)
}

// Touched tells what was touched since the last Touched, while it was noted.
func (x *Machine) Touched() []api.Touch {
	if !x.isMade() {
		return nil
	}
	x.gather()
	taken := x.noted
	x.noted = nil
	return taken
}

// gather takes what memory has noted into the machine's own part of the log, as much as there is room for.
func (x *Machine) gather() {
	later := x.memory.Touched()
	room := api.MaxTouches - len(x.noted)
	x.noted = append(x.noted, later[:min(len(later), room)]...)
}

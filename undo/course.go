package undo

import (
	"slices"

	"playpen/api"
	"playpen/run"
)

// course is the part of a Run that goes on: an engine, which is asked as the course itself, and the events of its run. The engine's log is on, since it alone knows which bytes an instruction has written.
type course struct {
	*run.Machine
	events []api.Event
}

// place is where a run has come to: its state, and its events so far.
type place struct {
	state  api.State
	events []api.Event
}

// courseOf gives the course of an engine.
func courseOf(engine *run.Machine) course {
	engine.Log(true)
	return course{Machine: engine}
}

// take takes one instruction, if there is fuel for it and it does not wait. The engine is handed no more than the one reply that an instruction may use, since it looks at all that it is handed.
func (c *course) take(fuel int, replies []api.Reply) api.Result {
	// The replies were looked at ahead of the first instruction.
	one, _ := c.Go(min(fuel, 1), replies[:min(len(replies), 1)])
	return one
}

// note gives the change that the instruction which was just taken has made, and puts its events behind the others.
func (c *course) note(ahead, behind api.State, events []api.Event) change {
	made := cloned(events)
	c.events = append(c.events, made...)
	return changeOf(ahead, behind, written(c.Touched()), made)
}

// here gives the place where the run is.
func (c *course) here() place {
	return place{state: c.State(), events: c.events}
}

// lay makes a place that the run has been at the one where it is.
func (c *course) lay(p place) {
	// A state in which the run has been fits.
	c.Put(p.state)
	c.events = p.events
}

// joined gives what came of a Go so far, with what came of its next part.
func joined(all, next api.Result) api.Result {
	next.Used += all.Used
	next.Replies += all.Replies
	next.Events = append(all.Events, next.Events...)
	return next
}

// cloned gives the same events in memory of their own.
func cloned(events []api.Event) []api.Event {
	events = slices.Clone(events)
	for i := range events {
		events[i].Args = slices.Clone(events[i].Args)
	}
	return events
}

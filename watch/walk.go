package watch

import (
	"playpen/api"
	"playpen/mem"
	"playpen/run"
)

// goOn goes on until a point is met, or it is enough: enough is handed how many frames the trail has more than ahead of the first instruction (below 0: less).
func (w *Watch) goOn(fuel int, replies []api.Reply, points []numbered, enough func(more int) bool) (api.Stop, api.Errno) {
	if !isMade(w) {
		return api.Stop{}, api.ErrNil
	}
	if fuel < 0 || fuel > api.MaxFuel {
		return api.Stop{}, api.ErrFuel
	}
	// A Go without fuel takes nothing, but tells where the run is, and refuses the replies that any other one would.
	here, err := w.engine.Go(0, replies)
	if err != api.OK {
		return api.Stop{}, err
	}
	frames := len(w.trail)
	x := walk{watch: w, view: view{module: w.module, engine: w.engine, at: here.At}, left: replies}
	for x.all.Used < fuel {
		asked := questions(points, &x.view)
		done, took := x.take()
		if !took {
			break
		}
		if number, met := firstMet(asked, done); met {
			return x.stop(api.StopPoint, number), api.OK
		}
		if enough(len(w.trail) - frames) {
			return x.stop(api.StopStep, 0), api.OK
		}
	}
	return x.stop(api.StopEnd, 0), api.OK
}

// walk is a watch that goes on, instruction by instruction.
type walk struct {
	watch *Watch
	view  view
	left  []api.Reply // those that are not used yet
	all   api.Result  // what came of it so far
}

// taken is what came of one instruction.
type taken struct {
	at      uint32 // where the run is behind it
	runs    bool   // whether the run goes on there
	events  []api.Event
	touched []api.Touch
}

// take takes one instruction, unless the run waits or is at its end. The engine is handed no more than the one reply that an instruction may use, since it looks at all that it is handed.
func (x *walk) take() (taken, bool) {
	in, from := x.view.instr(), x.view.at
	// The replies were looked at ahead of the first instruction.
	one, _ := x.watch.engine.Go(1, x.left[:min(len(x.left), 1)])
	if one.Used == 0 {
		return taken{}, false
	}
	x.add(one)
	x.watch.trail.follow(in, from, one)
	done := taken{at: one.At, runs: one.End == api.EndFuel || one.End == api.EndReply, events: one.Events, touched: x.watch.engine.Touched()}
	x.view.moveOn(done)
	return done, true
}

// add puts the result of the next part of the Go behind what came of it so far.
func (x *walk) add(next api.Result) {
	x.left = x.left[next.Replies:]
	next.Used += x.all.Used
	next.Replies += x.all.Replies
	next.Events = append(x.all.Events, next.Events...)
	x.all = next
}

// stop gives the stop of the walk where it is. How the run stands there a Go without fuel tells: the Go of the last instruction alone did not know how many replies are left.
func (x *walk) stop(kind api.StopKind, number int) api.Stop {
	rest, _ := x.watch.engine.Go(0, x.left)
	x.add(rest)
	return api.Stop{Kind: kind, Point: number, Result: x.all}
}

// memoryOf gives the data of an engine as they are now, in memory of their own, so that nothing that is read of them is noted.
func memoryOf(engine *run.Machine) *mem.Memory {
	// The data of a state are never refused.
	memory, _ := mem.From(engine.State().Data)
	return memory
}

package thread

import (
	"playpen/api"
	"playpen/gate"
)

// fault stops the run: it stands at the last instruction of its cell, with the words that this would take.
func (s site) fault(kind api.Fault) uint32 {
	x := s.x
	x.state.Life, x.state.PC, x.state.Fault = api.LifeFault, s.last, kind
	return api.NoCell
}

func (s site) stop() deed {
	return func() uint32 { return s.fault(api.FaultBreak) }
}

func (s site) jump() deed {
	x := s.x
	return func() uint32 {
		to := x.pop()
		if !x.module.Legal(s.last, to) {
			x.push(to)
			return s.fault(api.FaultJump)
		}
		return s.begins[to]
	}
}

// enter makes room for a frame on the program stack.
func (s site) enter(n uint32) deed {
	x := s.x
	return func() uint32 {
		// Added, not taken away: SP less the frame may be below nought.
		if x.state.SP < x.bottom+n {
			return s.fault(api.FaultStack)
		}
		x.state.SP -= n
		return s.next
	}
}

// leave ends a procedure: it returns, or the run is at its end. The word that says where to is one of the data, so a module may have forged it.
func (s site) leave(n uint32) deed {
	x := s.x
	return func() uint32 {
		sp := x.state.SP + n
		if sp > x.top {
			return s.fault(api.FaultStack)
		}
		back := x.memory.Load4(sp)
		if back == api.DoneMark {
			return s.finish(sp)
		}
		below := len(x.state.Ops) - x.module.Depth(back)
		if !x.module.Back(back) || below < 0 {
			return s.fault(api.FaultReturn)
		}
		if x.isDeep(back, below) {
			return s.fault(api.FaultDeep)
		}
		x.state.SP = sp
		return s.begins[back]
	}
}

// finish ends the run: PC stays at its last leave.
func (s site) finish(sp uint32) uint32 {
	x := s.x
	x.state.Life, x.state.Value = api.LifeDone, x.pop()
	x.state.SP, x.state.PC = sp, s.last
	return api.NoCell
}

// call calls a procedure or, by a word below 0, the host. Where it waits or meets a fault its word is on the operand stack, wherever it came from.
func (s site) call(word source) deed {
	x := s.x
	return func() uint32 {
		x.push(word())
		if number, is := gate.Number(x.last()); is {
			return s.ask(number)
		}
		return s.begin(x.last())
	}
}

// begin calls a procedure.
func (s site) begin(at uint32) uint32 {
	x := s.x
	if !x.module.Begins(at) {
		return s.fault(api.FaultCall)
	}
	if x.isDeep(at, len(x.state.Ops)-1) {
		return s.fault(api.FaultDeep)
	}
	x.pop()
	x.memory.Store4(x.state.SP, s.last+1)
	return s.begins[at]
}

// ask makes a system call, if it is granted and does not wait.
func (s site) ask(number uint32) uint32 {
	x := s.x
	if x.isWaiting() {
		// The call is not taken, but what stands ahead of it in its cell is.
		x.trip.left++
		x.wait(s.last)
		return api.NoCell
	}
	words, granted := x.door.Words(x.memory, x.state.SP, number)
	if !granted {
		return s.fault(api.FaultSyscall)
	}
	r := &x.trip.result
	reply := x.trip.replies[r.Replies]
	// The gate refuses nothing of it: the words are as many as were granted, and the reply fits.
	event, _ := x.door.Event(s.last, number, words, reply)
	x.door.Apply(x.memory, reply)
	x.pop()
	x.push(reply.Value)
	r.Replies++
	r.Events = append(r.Events, event)
	return s.next
}

// isWaiting tells whether the call that would take the top word is one of the host, granted, and no reply is left.
func (x *Machine) isWaiting() bool {
	if x.trip.result.Replies < len(x.trip.replies) {
		return false
	}
	number, is := gate.Number(x.last())
	_, granted := x.door.Granted(number)
	return is && granted
}

// wait ends the Go ahead of a call that waits. Its words are read from a clone, so that they are not noted.
func (x *Machine) wait(at uint32) {
	number, _ := gate.Number(x.last())
	words, _ := x.door.Words(x.memory.Clone(), x.state.SP, number)
	r := &x.trip.result
	r.Ask, _ = x.door.Event(at, number, words, api.Reply{})
	x.trip.over, r.End = true, api.EndReply
	x.state.PC = at
}

// last tells the top word.
func (x *Machine) last() uint32 {
	return x.state.Ops[len(x.state.Ops)-1]
}

// isDeep tells whether the procedure of an instruction may need more words than are left, where so many below its own are on the operand stack.
func (x *Machine) isDeep(at uint32, below int) bool {
	proc, _ := x.module.ProcOf(at)
	return below+proc.Need > api.MaxOps
}

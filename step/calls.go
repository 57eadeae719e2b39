package step

import (
	"playpen/api"
	"playpen/gate"
)

// enter makes room for a frame on the program stack.
func (x *machine) enter(frame uint32) error {
	// Added, not taken away: SP less the frame may be below nought.
	if x.state.SP < x.bounds.bottom+frame {
		return fault{api.FaultStack}
	}
	x.state.SP -= frame
	return nil
}

// leave ends a procedure: it returns, or the run is at its end. The word that says where to is one of the data, so a module may have forged it.
func (x *machine) leave(frame uint32) error {
	sp := x.state.SP + frame
	if sp > x.bounds.top {
		return fault{api.FaultStack}
	}
	back := x.memory.Load4(sp)
	if back == api.DoneMark {
		x.finish(sp)
		return nil
	}
	below := len(x.state.Ops) - x.module.Depth(back)
	if !x.module.Back(back) || below < 0 {
		return fault{api.FaultReturn}
	}
	if isDeep(x.module, back, below) {
		return fault{api.FaultDeep}
	}
	x.state.SP, x.state.PC = sp, back
	return nil
}

// finish ends the run: PC stays at its last leave.
func (x *machine) finish(sp uint32) {
	x.state.Life, x.state.Value = api.LifeDone, x.pop()
	x.state.SP, x.state.PC = sp, x.at
}

// call calls a procedure or, by a word below 0, the host.
func (x *machine) call() error {
	word := x.pop()
	if number, is := gate.Number(word); is {
		return x.ask(number)
	}
	if !x.module.Begins(word) {
		return fault{api.FaultCall}
	}
	if isDeep(x.module, word, len(x.state.Ops)) {
		return fault{api.FaultDeep}
	}
	x.memory.Store4(x.state.SP, x.at+1)
	x.state.PC = word
	return nil
}

// ask makes a system call, if there is a reply; else it waits.
func (x *machine) ask(number uint32) error {
	words, granted := x.door.Words(x.memory, x.state.SP, number)
	if !granted {
		return fault{api.FaultSyscall}
	}
	// A call that waits is told as if it were answered by nothing. The gate refuses neither: the number is granted, the words are as many, and the replies fit.
	var reply api.Reply
	if len(x.replies) > 0 {
		reply = x.replies[0]
	}
	x.event, _ = x.door.Event(x.at, number, words, reply)
	if len(x.replies) == 0 {
		return errWaits
	}
	x.door.Apply(x.memory, reply)
	x.push(reply.Value)
	x.made = true
	return nil
}

package step

import (
	"errors"
	"slices"
	"strconv"

	"playpen/api"
	"playpen/gate"
	"playpen/mem"
	"playpen/verify"
)

// errWaits is met by a system call for which there is no reply.
var errWaits = errors.New("the system call waits for a reply")

// fault is the error of an instruction that meets a fault.
type fault struct {
	kind api.Fault
}

func (f fault) Error() string {
	return "fault " + strconv.Itoa(int(f.kind))
}

// halt is an error with the index of the instruction that met it.
type halt struct {
	at  uint32
	why error
}

func (h *halt) Error() string {
	return "at " + strconv.FormatUint(uint64(h.at), 10) + ": " + h.why.Error()
}

func (h *halt) Unwrap() error {
	return h.why
}

// machine takes one instruction; where that ends with an error, what it holds is thrown away.
type machine struct {
	module  *verify.Module
	door    *gate.Gate
	bounds  bounds
	replies []api.Reply
	memory  *mem.Memory
	at      uint32    // the index of the instruction
	state   api.State // with an operand stack of its own; its Data are in memory
	made    bool      // a system call was answered
	event   api.Event // the one that was answered, or that waits
}

// machineOf gives a machine in a state that fits and runs. PC is where most instructions go on; the others lay another one in.
func machineOf(m *verify.Module, door *gate.Gate, b bounds, s api.State, replies []api.Reply) *machine {
	// The data of a state that fits are never refused.
	memory, _ := mem.From(s.Data)
	x := &machine{module: m, door: door, bounds: b, replies: replies, memory: memory, at: s.PC, state: s}
	x.state.Ops, x.state.Data = slices.Clone(s.Ops), nil
	x.state.PC++
	return x
}

// outcome takes the instruction, and gives the state behind it and what it did; s is the state that the machine was made of.
func (x *machine) outcome(s api.State) (api.State, api.Turn) {
	err := x.take()
	if errors.Is(err, errWaits) {
		return cloned(s), api.Turn{Waits: true, Event: x.event}
	}
	var met fault
	if errors.As(err, &met) {
		stopped := cloned(s)
		stopped.Life, stopped.Fault = api.LifeFault, met.kind
		return stopped, api.Turn{Took: true}
	}
	next := x.state
	next.Data = x.memory.Bytes()
	return next, api.Turn{Took: true, Made: x.made, Event: x.event}
}

// take does what the instruction says: without an error, or with a fault or errWaits inside of one.
func (x *machine) take() error {
	// A state that fits stands at an instruction.
	in, _ := x.module.At(x.at)
	if err := x.do(in); err != nil {
		return &halt{at: x.at, why: err}
	}
	return nil
}

// push puts a word on the operand stack.
func (x *machine) push(word uint32) {
	x.state.Ops = append(x.state.Ops, word)
}

// pop takes the top word; a state that fits has as many as its instruction takes.
func (x *machine) pop() uint32 {
	last := len(x.state.Ops) - 1
	word := x.state.Ops[last]
	x.state.Ops = x.state.Ops[:last]
	return word
}

// popTwo takes two words: b stood on top of a.
func (x *machine) popTwo() (a, b uint32) {
	b = x.pop()
	a = x.pop()
	return a, b
}

package run

import "playpen/api"

// operation does what an instruction says; PC has grown by 1 already. One that meets a fault panics with it.
type operation func(m *Machine, in api.Instr)

// operations gives the table of what each operation does, by its number.
func operations() [api.LastOp + 1]operation {
	return [api.LastOp + 1]operation{
		api.OpNop:   (*Machine).nop,
		api.OpBreak: (*Machine).stop,
		api.OpEnter: (*Machine).enter,
		api.OpLeave: (*Machine).leave,
		api.OpCall:  (*Machine).call,
		api.OpGoto:  (*Machine).goOn,
		api.OpJump:  (*Machine).jump,
		api.OpConst: (*Machine).constant,
		api.OpLocal: (*Machine).local,
		api.OpPop:   (*Machine).drop,
		api.OpDup:   (*Machine).double,
		api.OpArg:   (*Machine).argument,

		api.OpEq: (*Machine).branch, api.OpNe: (*Machine).branch,
		api.OpLti: (*Machine).branch, api.OpLei: (*Machine).branch, api.OpGti: (*Machine).branch, api.OpGei: (*Machine).branch,
		api.OpLtu: (*Machine).branch, api.OpLeu: (*Machine).branch, api.OpGtu: (*Machine).branch, api.OpGeu: (*Machine).branch,
		api.OpEqf: (*Machine).branch, api.OpNef: (*Machine).branch,
		api.OpLtf: (*Machine).branch, api.OpLef: (*Machine).branch, api.OpGtf: (*Machine).branch, api.OpGef: (*Machine).branch,

		api.OpLoad1:  (*Machine).load1,
		api.OpLoad2:  (*Machine).load2,
		api.OpLoad4:  (*Machine).load4,
		api.OpStore1: (*Machine).store1,
		api.OpStore2: (*Machine).store2,
		api.OpStore4: (*Machine).store4,
		api.OpCopy:   (*Machine).copy,

		api.OpSex8: (*Machine).unary, api.OpSex16: (*Machine).unary,
		api.OpNeg: (*Machine).unary, api.OpNot: (*Machine).unary, api.OpNegf: (*Machine).unary,
		api.OpCvif: (*Machine).unary, api.OpCvfi: (*Machine).unary,

		api.OpAdd: (*Machine).binary, api.OpSub: (*Machine).binary, api.OpMul: (*Machine).binary,
		api.OpDivi: (*Machine).binary, api.OpDivu: (*Machine).binary, api.OpModi: (*Machine).binary, api.OpModu: (*Machine).binary,
		api.OpAnd: (*Machine).binary, api.OpOr: (*Machine).binary, api.OpXor: (*Machine).binary,
		api.OpShl: (*Machine).binary, api.OpShri: (*Machine).binary, api.OpShru: (*Machine).binary,
		api.OpAddf: (*Machine).binary, api.OpSubf: (*Machine).binary, api.OpMulf: (*Machine).binary, api.OpDivf: (*Machine).binary,
	}
}

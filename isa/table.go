package isa

import "playpen/api"

// row has a name of its own so that the table's rows can be written without the names of their fields.
type row api.OpInfo

// operations gives the rows by the operations' numbers; the one of number 0 is empty, since 0 is none. They stand as in the chapter's table: word, width, most, takes, gives, kind.
func operations() [api.LastOp + 1]row {
	const (
		half   = 1<<16 - 1
		word   = 1<<32 - 1
		target = api.MaxInstrs - 1
		plain  = api.KindPlain
		branch = api.KindBranch
	)
	return [api.LastOp + 1]row{
		api.OpNop:   {"nop", 0, 0, 0, 0, plain},
		api.OpBreak: {"break", 0, 0, 0, 0, api.KindStop},
		api.OpEnter: {"enter", 2, half, 0, 0, api.KindEnter},
		api.OpLeave: {"leave", 2, half, 1, 0, api.KindLeave},
		api.OpCall:  {"call", 0, 0, 1, 1, api.KindCall},
		api.OpGoto:  {"goto", 2, target, 0, 0, api.KindGoto},
		api.OpJump:  {"jump", 0, 0, 1, 0, api.KindJump},
		api.OpConst: {"const", 4, word, 0, 1, plain},
		api.OpLocal: {"local", 4, word, 0, 1, plain},
		api.OpPop:   {"pop", 0, 0, 1, 0, plain},
		api.OpDup:   {"dup", 0, 0, 1, 2, plain},
		api.OpArg:   {"arg", 1, api.MaxArgs - 1, 1, 0, plain},
		api.OpEq:    {"eq", 2, target, 2, 0, branch}, api.OpNe: {"ne", 2, target, 2, 0, branch},
		api.OpLti: {"lti", 2, target, 2, 0, branch}, api.OpLei: {"lei", 2, target, 2, 0, branch},
		api.OpGti: {"gti", 2, target, 2, 0, branch}, api.OpGei: {"gei", 2, target, 2, 0, branch},
		api.OpLtu: {"ltu", 2, target, 2, 0, branch}, api.OpLeu: {"leu", 2, target, 2, 0, branch},
		api.OpGtu: {"gtu", 2, target, 2, 0, branch}, api.OpGeu: {"geu", 2, target, 2, 0, branch},
		api.OpEqf: {"eqf", 2, target, 2, 0, branch}, api.OpNef: {"nef", 2, target, 2, 0, branch},
		api.OpLtf: {"ltf", 2, target, 2, 0, branch}, api.OpLef: {"lef", 2, target, 2, 0, branch},
		api.OpGtf: {"gtf", 2, target, 2, 0, branch}, api.OpGef: {"gef", 2, target, 2, 0, branch},
		api.OpLoad1: {"load1", 0, 0, 1, 1, plain}, api.OpLoad2: {"load2", 0, 0, 1, 1, plain}, api.OpLoad4: {"load4", 0, 0, 1, 1, plain},
		api.OpStore1: {"store1", 0, 0, 2, 0, plain}, api.OpStore2: {"store2", 0, 0, 2, 0, plain}, api.OpStore4: {"store4", 0, 0, 2, 0, plain},
		api.OpCopy: {"copy", 2, api.MaxCopy, 2, 0, plain},
		api.OpSex8: {"sex8", 0, 0, 1, 1, plain}, api.OpSex16: {"sex16", 0, 0, 1, 1, plain},
		api.OpNeg: {"neg", 0, 0, 1, 1, plain}, api.OpNot: {"not", 0, 0, 1, 1, plain}, api.OpNegf: {"negf", 0, 0, 1, 1, plain},
		api.OpCvif: {"cvif", 0, 0, 1, 1, plain}, api.OpCvfi: {"cvfi", 0, 0, 1, 1, plain},
		api.OpAdd: {"add", 0, 0, 2, 1, plain}, api.OpSub: {"sub", 0, 0, 2, 1, plain}, api.OpMul: {"mul", 0, 0, 2, 1, plain},
		api.OpDivi: {"divi", 0, 0, 2, 1, plain}, api.OpDivu: {"divu", 0, 0, 2, 1, plain},
		api.OpModi: {"modi", 0, 0, 2, 1, plain}, api.OpModu: {"modu", 0, 0, 2, 1, plain},
		api.OpAnd: {"and", 0, 0, 2, 1, plain}, api.OpOr: {"or", 0, 0, 2, 1, plain}, api.OpXor: {"xor", 0, 0, 2, 1, plain},
		api.OpShl: {"shl", 0, 0, 2, 1, plain}, api.OpShri: {"shri", 0, 0, 2, 1, plain}, api.OpShru: {"shru", 0, 0, 2, 1, plain},
		api.OpAddf: {"addf", 0, 0, 2, 1, plain}, api.OpSubf: {"subf", 0, 0, 2, 1, plain},
		api.OpMulf: {"mulf", 0, 0, 2, 1, plain}, api.OpDivf: {"divf", 0, 0, 2, 1, plain},
	}
}

package prog

import (
	"weir/api"
	"weir/lexis"
)

// eax is the register that CMPXCHG has without naming it.
const eax = "EAX"

// uses is which fields an instruction of some kind has in a test.
type uses struct {
	reg, src, loc, imm bool
}

// usesOf is what an instruction of a kind uses; false: there is no such kind.
func usesOf(kind int) (uses, bool) {
	switch kind {
	case api.OMovImm:
		return uses{reg: true, imm: true}, true
	case api.OMovReg:
		return uses{reg: true, src: true}, true
	case api.OLoad, api.OXchg, api.OXadd:
		return uses{reg: true, loc: true}, true
	case api.OStoreImm:
		return uses{loc: true, imm: true}, true
	case api.OStoreReg, api.OCmpxchg:
		return uses{loc: true, src: true}, true
	case api.OFence:
		return uses{}, true
	}
	return uses{}, false
}

// eventsOf is how many events an instruction of a kind makes.
func eventsOf(kind int) int {
	switch kind {
	case api.OLoad, api.OStoreImm, api.OStoreReg, api.OFence:
		return 1
	case api.OXchg, api.OCmpxchg, api.OXadd:
		return 2
	}
	return 0
}

// checkForm tells what keeps an instruction from being in form.
func checkForm(in api.Instr) api.Errno {
	u, ok := usesOf(in.Op)
	switch {
	case !ok || !u.reg && in.Reg != "" || !u.src && in.Src != "" || !u.loc && in.Loc != "" || !u.imm && in.Imm != 0:
		return api.ErrOp
	case u.reg && !Register(in.Reg) || u.src && !Register(in.Src):
		return api.ErrReg
	case u.loc && !lexis.Name(in.Loc):
		return api.ErrName
	}
	return api.OK
}

// named is an instruction with the register that it has without naming it.
func named(in api.Instr) api.Instr {
	if in.Op == api.OCmpxchg {
		in.Reg = eax
	}
	return in
}

// opsOf is the instructions of a thread in numbers. A field that is not used is empty, which is nothing's name: its number is 0.
func opsOf(l []api.Instr, thread int, numbers map[api.Ref]int) []api.Op {
	var ops []api.Op
	for _, in := range l {
		in = named(in)
		ops = append(ops, api.Op{
			Kind: in.Op,
			Reg:  numbers[api.Ref{Thread: thread, Name: in.Reg}],
			Src:  numbers[api.Ref{Thread: thread, Name: in.Src}],
			Loc:  numbers[api.Ref{Thread: -1, Name: in.Loc}],
			Imm:  in.Imm,
		})
	}
	return ops
}

// instrsOf is the instructions of a thread with names for their numbers.
func instrsOf(ops []api.Op, regs, locs []string) []api.Instr {
	var l []api.Instr
	for _, op := range ops {
		u, _ := usesOf(op.Kind)
		in := api.Instr{Op: op.Kind, Imm: op.Imm}
		if u.reg {
			in.Reg = regs[op.Reg]
		}
		if u.src {
			in.Src = regs[op.Src]
		}
		if u.loc {
			in.Loc = locs[op.Loc]
		}
		l = append(l, in)
	}
	return l
}

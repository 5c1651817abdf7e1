package prog

import "weir/api"

// Run is the final state when the threads run one behind the other, writes reaching memory at once.
func Run(p api.Prog) (api.Final, api.Errno) {
	if e := Valid(p); e != api.OK {
		return api.Final{}, e
	}
	f := First(p)
	mem := f.V[f.N-len(p.Locs) : f.N]
	at := 0
	for k, l := range p.Threads {
		regs := f.V[at : at+len(p.Regs[k])]
		for _, op := range l {
			do(op, regs, mem)
		}
		at += len(regs)
	}
	return f, api.OK
}

// do does an instruction in the registers of its thread and in memory.
func do(op api.Op, regs, mem []int64) {
	switch op.Kind {
	case api.OMovImm:
		regs[op.Reg] = op.Imm
	case api.OMovReg:
		regs[op.Reg] = regs[op.Src]
	case api.OLoad:
		regs[op.Reg] = mem[op.Loc]
	case api.OStoreImm:
		mem[op.Loc] = op.Imm
	case api.OStoreReg:
		mem[op.Loc] = regs[op.Src]
	case api.OXchg:
		mem[op.Loc], regs[op.Reg] = regs[op.Reg], mem[op.Loc]
	case api.OCmpxchg:
		if mem[op.Loc] == regs[op.Reg] {
			mem[op.Loc] = regs[op.Src]
		} else {
			regs[op.Reg] = mem[op.Loc]
		}
	case api.OXadd:
		mem[op.Loc], regs[op.Reg] = mem[op.Loc]+regs[op.Reg], mem[op.Loc]
	}
}

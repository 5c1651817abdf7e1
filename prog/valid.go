package prog

import (
	"weir/api"
	"weir/lexis"
)

// Valid tells whether a program is right.
func Valid(p api.Prog) api.Errno {
	if len(p.Threads) == 0 || len(p.Threads) > api.MaxThreads {
		return api.ErrThreads
	}
	if e := validRegs(p); e != api.OK {
		return e
	}
	switch {
	case len(p.LocInit) != len(p.Locs) || !rising(p.Locs, lexis.Name):
		return api.ErrName
	case len(p.Locs) > api.MaxLocs:
		return api.ErrLocs
	case !validOps(p):
		return api.ErrOp
	case Events(p) > api.MaxEvents:
		return api.ErrEvents
	}
	return api.OK
}

func validRegs(p api.Prog) api.Errno {
	if len(p.Regs) != len(p.Threads) || len(p.RegInit) != len(p.Threads) {
		return api.ErrReg
	}
	most := 0
	for k, l := range p.Regs {
		if len(p.RegInit[k]) != len(l) || !rising(l, Register) {
			return api.ErrReg
		}
		most = max(most, len(l))
	}
	if most > api.MaxRegs {
		return api.ErrRegisters
	}
	return api.OK
}

// rising tells whether names rise strictly, and are all of a kind.
func rising(l []string, kind func(string) bool) bool {
	for i, s := range l {
		if !kind(s) || i > 0 && l[i-1] >= s {
			return false
		}
	}
	return true
}

func validOps(p api.Prog) bool {
	for k, l := range p.Threads {
		for _, op := range l {
			if !validOp(op, p.Regs[k], p.Locs) {
				return false
			}
		}
	}
	return true
}

// validOp tells whether an instruction can be made over these registers and locations.
func validOp(op api.Op, regs, locs []string) bool {
	u, ok := usesOf(op.Kind)
	if !ok || !u.imm && op.Imm != 0 {
		return false
	}
	swaps := op.Kind == api.OCmpxchg
	if !validNumber(op.Reg, u.reg || swaps, len(regs)) || !validNumber(op.Src, u.src, len(regs)) || !validNumber(op.Loc, u.loc, len(locs)) {
		return false
	}
	return !swaps || regs[op.Reg] == eax
}

// validNumber tells whether a number is that of one of so many names, or 0 where none is used.
func validNumber(n int, used bool, names int) bool {
	if !used {
		return n == 0
	}
	return 0 <= n && n < names
}

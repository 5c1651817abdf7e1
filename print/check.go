package print

import (
	"strings"

	"weir/api"
	"weir/cond"
	"weir/lexis"
)

// maxThread is the greatest thread that a text of four digits names.
const maxThread = 9999

func writableRef(r api.Ref) bool {
	return -1 <= r.Thread && r.Thread <= maxThread && lexis.Name(r.Name)
}

// writableInstr asks for the fields that the Op uses, and for no others: those would be lost in the text.
func writableInstr(in api.Instr) bool {
	switch in.Op {
	case api.OMovImm:
		return names(in.Reg) && in == api.Instr{Op: in.Op, Reg: in.Reg, Imm: in.Imm}
	case api.OMovReg:
		return names(in.Reg, in.Src) && in == api.Instr{Op: in.Op, Reg: in.Reg, Src: in.Src}
	case api.OLoad, api.OXchg, api.OXadd:
		return names(in.Reg, in.Loc) && in == api.Instr{Op: in.Op, Reg: in.Reg, Loc: in.Loc}
	case api.OStoreImm:
		return names(in.Loc) && in == api.Instr{Op: in.Op, Loc: in.Loc, Imm: in.Imm}
	case api.OStoreReg, api.OCmpxchg:
		return names(in.Loc, in.Src) && in == api.Instr{Op: in.Op, Loc: in.Loc, Src: in.Src}
	case api.OFence:
		return in == api.Instr{Op: in.Op}
	}
	return false
}

func names(all ...string) bool {
	for _, s := range all {
		if !lexis.Name(s) {
			return false
		}
	}
	return true
}

// writable tells whether a test can be written, however long its text is.
func writable(t api.Test) bool {
	if !lexis.Name(t.Name) || strings.ContainsAny(t.Doc, "\"\n") {
		return false
	}
	if len(t.Threads) == 0 || quantText(t.Quant) == "" || cond.Check(t.Cond) != api.OK {
		return false
	}
	for _, x := range t.Inits {
		if !writableRef(x.Ref) {
			return false
		}
	}
	for _, r := range t.Watch {
		if !writableRef(r) {
			return false
		}
	}
	return writableThreads(t.Threads)
}

func writableThreads(threads [][]api.Instr) bool {
	for _, l := range threads {
		for _, in := range l {
			if !writableInstr(in) {
				return false
			}
		}
	}
	return true
}

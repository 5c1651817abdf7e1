package sc

import "weir/api"

// plain tells whether a state is one of the machine of sequential consistency.
func plain(s api.State) bool {
	for i := range s.PC {
		if s.Phase[i] != 0 || len(s.Buf[i]) != 0 {
			return false
		}
	}
	return s.Lock == -1
}

// plainPicks is a step of each thread that has not done all.
func plainPicks(threads [][]api.Op, s api.State) []api.Pick {
	if !plain(s) {
		return nil
	}
	var l []api.Pick
	for i := range threads {
		if s.PC[i] < len(threads[i]) {
			l = append(l, api.Pick{Thread: i, Kind: api.PStep})
		}
	}
	return l
}

// plainStep does a pick in a state; false: it can't be done, and nothing has changed.
func plainStep(threads [][]api.Op, s api.State, k api.Pick) bool {
	return plain(s) && k.Kind == api.PStep && k.Loc == 0 && turn(threads, s, k.Thread)
}

// plainEnds tells whether the machine of sequential consistency has ended.
func plainEnds(threads [][]api.Op, s api.State) bool { return plain(s) && done(threads, s) }

// done tells whether all threads have done all their instructions.
func done(threads [][]api.Op, s api.State) bool {
	for i, l := range threads {
		if s.PC[i] < len(l) {
			return false
		}
	}
	return true
}

// turn lets a thread do its next instruction in a state; false: there is no such thread or instruction, and nothing has changed.
func turn(threads [][]api.Op, s api.State, thread int) bool {
	if thread < 0 || thread >= len(threads) || s.PC[thread] >= len(threads[thread]) {
		return false
	}
	do(threads[thread][s.PC[thread]], s.Regs[thread], s.Mem)
	s.PC[thread]++
	return true
}

// do does an instruction in the registers of its thread and in memory, at once.
func do(op api.Op, regs, mem []int64) {
	switch op.Kind {
	case api.OMovImm:
		regs[op.Reg] = op.Imm
	case api.OMovReg:
		regs[op.Reg] = regs[op.Src]
	case api.OLoad:
		regs[op.Reg] = mem[op.Loc]
	case api.OStoreImm:
		mem[op.Loc] = op.Imm
	case api.OStoreReg:
		mem[op.Loc] = regs[op.Src]
	case api.OXchg:
		mem[op.Loc], regs[op.Reg] = regs[op.Reg], mem[op.Loc]
	case api.OCmpxchg:
		if was := mem[op.Loc]; was == regs[op.Reg] {
			mem[op.Loc] = regs[op.Src]
		} else {
			regs[op.Reg] = was
		}
	case api.OXadd:
		was := mem[op.Loc]
		mem[op.Loc], regs[op.Reg] = was+regs[op.Reg], was
	}
}

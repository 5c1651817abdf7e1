package reduce

import (
	"slices"

	"weir/api"
	"weir/pso"
	"weir/sc"
	"weir/tso"
)

// row is a model with its functions.
type row struct {
	model   int
	machine func(p api.Prog) (api.Machine, api.Errno)
	local   func(threads [][]api.Op, s api.State, k api.Pick) bool // of a pick that can be done in the state
}

// rowOf is a model's row; ErrRange: there is no such model.
func rowOf(model int) (row, api.Errno) {
	for _, r := range []row{
		{api.MSC, sc.New, plainLocal},
		{api.MTSO, tso.New, bufferedLocal},
		{api.MPSO, pso.New, bufferedLocal},
	} {
		if r.model == model {
			return r, api.OK
		}
	}
	return row{}, api.ErrRange
}

// leanPicks is the lean machine's picks: those of the full one, or the first of them that is local. It keeps the program.
func (r row) leanPicks(p api.Prog, full api.Machine) func(string) []api.Pick {
	return func(text string) []api.Pick {
		s, e := sc.Read(p, text)
		if e != api.OK {
			return nil
		}
		l := full.Picks(text)
		at := slices.IndexFunc(l, func(k api.Pick) bool { return r.local(p.Threads, s, k) })
		if at < 0 {
			return l
		}
		return []api.Pick{l[at]}
	}
}

// plainLocal is for a machine in which all see each write at once: no step that touches memory is local.
func plainLocal(threads [][]api.Op, s api.State, k api.Pick) bool {
	switch threads[k.Thread][s.PC[k.Thread]].Kind {
	case api.OMovImm, api.OMovReg, api.OFence:
		return true
	}
	return false
}

// bufferedLocal is for machines with buffers and a lock: a store goes to the own buffer alone, and who holds the lock has memory for himself.
func bufferedLocal(threads [][]api.Op, s api.State, k api.Pick) bool {
	if s.Lock == k.Thread {
		return true
	}
	if k.Kind != api.PStep {
		return false
	}
	switch threads[k.Thread][s.PC[k.Thread]].Kind {
	case api.OMovImm, api.OMovReg, api.OStoreImm, api.OStoreReg, api.OFence:
		return true
	}
	return false
}

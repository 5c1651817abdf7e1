package robust

import (
	"slices"

	"weir/api"
	"weir/prog"
	"weir/sets"
)

// slots is the slots of a program that is right.
func slots(p api.Prog) []api.Where {
	var l []api.Where
	for i, thread := range p.Threads {
		stored := false
		for k, op := range thread {
			if stored && op.Kind == api.OLoad {
				l = append(l, api.Where{Part: api.WInstr, I: i, K: k})
			}
			stored = stored || isStore(op)
		}
	}
	return l
}

// allSlots is the numbers of all slots.
func allSlots(p api.Prog) api.Set { return sets.Below(len(slots(p))) }

// room is how many fences more a program may have.
func room(p api.Prog) int { return api.MaxEvents - prog.Events(p) }

// fenced is a program with fences at some of its slots, in memory of its own.
func fenced(p api.Prog, s api.Set) api.Prog {
	q, l := copyOf(p), slots(p)
	for _, n := range slices.Backward(sets.List(s)) { // from the last one on: so the places of those ahead still hold
		w := l[n]
		q.Threads[w.I] = slices.Insert(q.Threads[w.I], w.K, api.Op{Kind: api.OFence})
	}
	return q
}

// copyOf is a program like another one, in memory of its own.
func copyOf(p api.Prog) api.Prog {
	return api.Prog{
		Threads: clones(p.Threads),
		Regs:    clones(p.Regs),
		Locs:    slices.Clone(p.Locs),
		RegInit: clones(p.RegInit),
		LocInit: slices.Clone(p.LocInit),
	}
}

func clones[T any](lists [][]T) [][]T {
	var all [][]T
	for _, l := range lists {
		all = append(all, slices.Clone(l))
	}
	return all
}

func isStore(op api.Op) bool { return op.Kind == api.OStoreImm || op.Kind == api.OStoreReg }

package race

import (
	"cmp"
	"iter"
	"maps"
	"slices"

	"weir/api"
	"weir/explore"
	"weir/sc"
)

// find is the races of a program that is right.
func find(p api.Prog) []api.Race {
	seen := map[api.Race]struct{}{}
	all := acts(p)
	for k := range all {
		for i := range k {
			for a, b := range meetings(touching(all[i]), touching(all[k])) {
				if r, ok := raceOf(a, b); ok {
					seen[r] = struct{}{}
				}
			}
		}
	}
	return slices.SortedFunc(maps.Keys(seen), compare)
}

// meetings goes through the instructions of two threads that are next in one state, out of those that touch a location. No instruction waits, and none is passed over, so that neither values nor other instructions and threads count: fences, one for each instruction that does, come to the same places in far fewer states.
func meetings(l, others []act) iter.Seq2[act, act] {
	return func(yield func(act, act) bool) {
		q := fences(len(l), len(others))
		m, _ := sc.New(q)
		for text := range explore.States(m) {
			s, _ := sc.Read(q, text)
			i, k := s.PC[0], s.PC[1]
			if i < len(l) && k < len(others) && !yield(l[i], others[k]) {
				return
			}
		}
	}
}

// fences is a program of two threads that have so many fences. Each stands for an instruction that has an event, so that there are not too many of them.
func fences(n, others int) api.Prog {
	fence := []api.Op{{Kind: api.OFence}}
	return api.Prog{
		Threads: [][]api.Op{slices.Repeat(fence, n), slices.Repeat(fence, others)},
		Regs:    make([][]string, 2),
		RegInit: make([][]int64, 2),
	}
}

// touching is those of some instructions that touch a location.
func touching(l []act) []act {
	return slices.DeleteFunc(slices.Clone(l), func(a act) bool { return !touches(a.op) })
}

// compare is the order in which races are told.
func compare(r, s api.Race) int {
	return cmp.Or(compareWhere(r.A, s.A), compareWhere(r.B, s.B))
}

func compareWhere(v, w api.Where) int { return cmp.Or(cmp.Compare(v.I, w.I), cmp.Compare(v.K, w.K)) }

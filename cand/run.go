package cand

import (
	"slices"

	"weir/api"
	"weir/sc"
)

// written is the writes of those tries that do not fail, if the threads take turns in an order, which is a weave.
func written(p api.Prog, order []int) []api.Event {
	m, e := sc.New(p)
	if e != api.OK {
		return nil
	}
	var l []api.Event
	text, done := m.Start, make([]int, len(p.Threads))
	for _, thread := range order {
		index := done[thread]
		if op := p.Threads[thread][index]; op.Kind == api.OCmpxchg && succeeds(p, text, thread, op) {
			l = append(l, api.Event{Kind: api.EWrite, Thread: thread, Index: index})
		}
		text, _ = m.Step(text, api.Pick{Thread: thread, Kind: api.PStep})
		done[thread]++
	}
	return l
}

// succeeds tells whether a try writes in a state.
func succeeds(p api.Prog, text string, thread int, op api.Op) bool {
	s, e := sc.Read(p, text)
	return e == api.OK && s.Mem[op.Loc] == s.Regs[thread][op.Reg]
}

// played is the choice of reads and the order of writes, if the threads take turns in an order, which is a weave.
func (l layout) played(turns []int) ([]int, [][]int) {
	from, order := slices.Repeat([]int{-1}, len(l.events)), make([][]int, len(l.writes))
	for loc, writes := range l.writes {
		order[loc] = []int{writes[0]}
	}
	done := make([]int, len(l.regs))
	for _, thread := range turns {
		for place, e := range l.events {
			if e.Thread != thread || e.Index != done[thread] {
				continue
			}
			switch e.Kind {
			case api.ERead:
				from[place] = order[e.Loc][len(order[e.Loc])-1]
			case api.EWrite:
				order[e.Loc] = append(order[e.Loc], place)
			}
		}
		done[thread]++
	}
	return from, order
}

package witness

import (
	"slices"

	"weir/api"
	"weir/cand"
	"weir/event"
	"weir/sets"
)

// reading is a read, and the write from which it reads.
type reading struct{ read, write api.Event }

// history is who has read from whom in a run, and which writes wait and are done.
type history struct {
	readings []reading
	waiting  [][]api.Event // of each thread, the oldest first
	done     [][]api.Event // of each location, the initial write first
}

// historyOf is the history of a run by what its picks did.
func historyOf(kind int, p api.Prog, deeds []deed) history {
	h := history{waiting: make([][]api.Event, len(p.Threads))}
	for loc := range p.Locs {
		h.done = append(h.done, []api.Event{{Kind: api.EInit, Thread: -1, Loc: loc}})
	}
	for _, d := range deeds {
		if d.part == flushing {
			h.flush(d)
		}
		if d.reads {
			h.readings = append(h.readings, reading{d.event(api.ERead), h.newest(d.thread, d.op.Loc)})
		}
		if !d.writes {
			continue
		}
		if w := d.event(api.EWrite); kind == api.MSC {
			h.done[w.Loc] = append(h.done[w.Loc], w)
		} else {
			h.waiting[w.Thread] = append(h.waiting[w.Thread], w)
		}
	}
	return h
}

// event is an event of the instruction that is done.
func (d deed) event(kind int) api.Event {
	return api.Event{Kind: kind, Thread: d.thread, Index: d.index, Loc: d.op.Loc, Locked: isLocked(d.op)}
}

// flush lets the thread's oldest write to the location be done. (Where all writes wait in one row, the oldest one of all is that too.)
func (h *history) flush(d deed) {
	l := h.waiting[d.thread]
	at := slices.IndexFunc(l, func(w api.Event) bool { return w.Loc == d.write.Loc })
	h.done[d.write.Loc] = append(h.done[d.write.Loc], l[at])
	h.waiting[d.thread] = slices.Delete(l, at, at+1)
}

// newest is the write that a thread sees at a location.
func (h *history) newest(thread, loc int) api.Event {
	for _, w := range slices.Backward(h.waiting[thread]) {
		if w.Loc == loc {
			return w
		}
	}
	return h.done[loc][len(h.done[loc])-1]
}

// exec is the execution of the run, which has come to its end.
func (h *history) exec(p api.Prog) (api.Exec, api.Errno) {
	fails := h.fails(p)
	events, e := event.List(p, fails)
	if e != api.OK {
		return api.Exec{}, e
	}
	from, order := slices.Repeat([]int{-1}, len(events)), make([][]int, len(h.done))
	for _, r := range h.readings {
		from[slices.Index(events, r.read)] = slices.Index(events, r.write)
	}
	for loc, writes := range h.done {
		for _, w := range writes {
			order[loc] = append(order[loc], slices.Index(events, w))
		}
	}
	values, regs, e := cand.Resolve(p, fails, from)
	if e != api.OK {
		return api.Exec{}, e
	}
	return api.Exec{Events: events, Values: values, From: from, Order: order, Regs: regs}, api.OK
}

// fails is the tries that wrote nothing.
func (h *history) fails(p api.Prog) api.Set {
	var fails api.Set
	number := 0
	for thread, ops := range p.Threads {
		for index, op := range ops {
			if op.Kind != api.OCmpxchg {
				continue
			}
			d := deed{thread: thread, index: index, op: op}
			if !slices.Contains(h.done[op.Loc], d.event(api.EWrite)) {
				fails = sets.With(fails, number)
			}
			number++
		}
	}
	return fails
}

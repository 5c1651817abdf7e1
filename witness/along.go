package witness

import (
	"weir/api"
	"weir/event"
	"weir/rel"
	"weir/sets"
)

// runAlong is a run whose execution is x, which obeys the model, along an order of its events in which all of axiom.Global goes forward.
//
// A load is done at its read, a write reaches memory at its own place, and a thread does all other instructions as late as it can: just ahead of one behind them. A fence or a locked instruction finds the buffer empty then, because Global has all writes ahead of it ahead of what is behind it. A read sees the write that it is to read from: later ones stand behind it by fr, and the thread's own ones that would hide it are kept out by the axiom AUniproc. A locked instruction, between whose parts nobody may come, is done as a whole at its write: what Global has behind its read it has behind its write too, by the lock, or by co, since AAtomic lets no write come between both.
func runAlong(kind int, p api.Prog, x api.Exec, order []int) []api.Pick {
	r := run{kind: kind, next: make([]int, len(p.Threads))}
	halves := rel.Domain(event.Rmw(x.Events)) // reads that are done at their writes
	for _, place := range order {
		if !sets.Has(halves, place) {
			r.do(x.Events[place])
		}
	}
	for thread, ops := range p.Threads {
		r.reach(thread, len(ops))
	}
	return r.picks
}

// run is picks that become more, and how far they lead.
type run struct {
	kind  int
	next  []int // of each thread the number of its next instruction
	picks []api.Pick
}

// do does what makes an event come about.
func (r *run) do(e api.Event) {
	if e.Kind == api.EInit || e.Kind == api.EFence {
		return
	}
	r.reach(e.Thread, e.Index)
	lock := e.Locked && r.kind != api.MSC
	if lock {
		r.step(e.Thread)
	}
	r.reach(e.Thread, e.Index+1)
	if e.Kind == api.EWrite {
		r.flush(e)
	}
	if lock {
		r.step(e.Thread)
	}
}

// reach lets a thread step over its instructions ahead of a number, if it has not done so yet.
func (r *run) reach(thread, index int) {
	for ; r.next[thread] < index; r.next[thread]++ {
		r.step(thread)
	}
}

func (r *run) step(thread int) {
	r.picks = append(r.picks, api.Pick{Thread: thread, Kind: api.PStep})
}

// flush lets a write reach memory, if it waits.
func (r *run) flush(e api.Event) {
	switch r.kind {
	case api.MTSO:
		r.picks = append(r.picks, api.Pick{Thread: e.Thread, Kind: api.PFlush})
	case api.MPSO:
		r.picks = append(r.picks, api.Pick{Thread: e.Thread, Kind: api.PFlush, Loc: e.Loc})
	}
}

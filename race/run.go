package race

import (
	"slices"

	"weir/api"
	"weir/sc"
)

// step is an instruction that was done in a run.
type step struct {
	act
	clock []int
}

// play is the steps of a run; api.ErrPick: the picks are no run.
func play(p api.Prog, l []api.Pick) ([]step, api.Errno) {
	m, e := sc.New(p)
	if e != api.OK {
		return nil, e
	}
	var run []step
	all, c, text := acts(p), newClocks(p), m.Start
	for _, k := range l {
		next, ok := m.Step(text, k)
		if !ok {
			return nil, api.ErrPick
		}
		a := all[k.Thread][c.done(k.Thread)]
		run = append(run, step{a, c.tick(a)})
		text = next
	}
	return run, api.OK
}

// clocks is how far the clocks of a run have come. Clocks that are kept here are not changed any more.
type clocks struct {
	threads [][]int // of each thread that of its last step
	locks   [][]int // of each location that of the last locked instruction that touched it; nil: there was none
}

func newClocks(p api.Prog) clocks {
	c := clocks{make([][]int, len(p.Threads)), make([][]int, len(p.Locs))}
	for i := range c.threads {
		c.threads[i] = make([]int, len(p.Threads))
	}
	return c
}

// done is how many instructions a thread has done: all its steps are in its own number of its last clock.
func (c clocks) done(thread int) int { return c.threads[thread][thread] }

// tick is the clock of a thread's next step.
func (c clocks) tick(a act) []int {
	clock := slices.Clone(c.threads[a.at.I])
	clock[a.at.I]++
	if isLocked(a.op) {
		for i, n := range c.locks[a.op.Loc] {
			clock[i] = max(clock[i], n)
		}
		c.locks[a.op.Loc] = clock
	}
	c.threads[a.at.I] = clock
	return clock
}

// apart is the pairs of steps of a run that would be races, were they next, and that nothing puts in order.
func apart(run []step) []api.Race {
	var l []api.Race
	run = slices.DeleteFunc(slices.Clone(run), func(s step) bool { return !touches(s.op) })
	for i, a := range run {
		for _, b := range run[i+1:] {
			if r, ok := raceOf(a.act, b.act); ok && !a.ahead(b) {
				l = append(l, r)
			}
		}
	}
	slices.SortFunc(l, compare)
	return l
}

// ahead tells whether a step is ahead of another one that comes later: its thread's steps up to one that is ahead are ahead all of them.
func (s step) ahead(later step) bool { return later.clock[s.at.I] > s.at.K }

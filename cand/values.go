package cand

import (
	"slices"

	"weir/api"
)

// stand is how far one has come with a value; of several the greatest counts for what hangs on them all.
type stand int

const (
	unasked stand = iota
	asked         // who asks for it now, while it is being looked for, hangs on itself
	found
	open     // it hangs on a read for which nothing is chosen yet
	circular // it hangs on itself, or on one that does
)

// finder looks for the values of a program's events by a choice of reads, which need not be whole yet.
type finder struct {
	layout
	from   []int // -1: no read, or nothing is chosen for it
	values []int64
	stands []stand
}

// newFinder is one for which nothing has been chosen.
func newFinder(l layout) *finder {
	n := len(l.events)
	return &finder{layout: l, from: slices.Repeat([]int{-1}, n), values: make([]int64, n), stands: make([]stand, n)}
}

// chosen is a finder that has the values by a choice of reads; false: it is none, or has none.
func (l layout) chosen(from []int) (*finder, bool) {
	if !l.chooses(from) {
		return nil, false
	}
	f := newFinder(l)
	copy(f.from, from)
	return f, f.look()
}

// look looks for all values; false: one hangs on itself, or a try can't agree, and whatever is chosen further on can't mend it.
func (f *finder) look() bool {
	clear(f.stands)
	for place := range f.events {
		if f.find(place) == circular {
			return false
		}
	}
	for _, t := range f.tries {
		if eax, s := f.add(t.eax); s == found && !f.agrees(t, eax) {
			return false
		}
	}
	return true
}

// agrees tells whether a try agrees, or still may: by the write that it reads from, or by one of all those from which it can be chosen to read. (So a set of fails that can't be is left early, and not behind all choices for the reads ahead.)
func (f *finder) agrees(t try, eax int64) bool {
	from := f.writes[f.events[t.read].Loc]
	if w := f.from[t.read]; w >= 0 {
		from = []int{w}
	}
	return slices.ContainsFunc(from, func(w int) bool {
		return f.stands[w] == open || (f.values[w] != eax) == t.fails
	})
}

// find looks for the value of an event.
func (f *finder) find(place int) stand {
	switch f.stands[place] {
	case asked:
		return circular
	case unasked:
		f.stands[place] = asked
		f.values[place], f.stands[place] = f.reckon(place)
	}
	return f.stands[place]
}

func (f *finder) reckon(place int) (int64, stand) {
	if f.events[place].Kind != api.ERead {
		return f.add(f.terms[place])
	}
	w := f.from[place]
	if w < 0 {
		return 0, open
	}
	s := f.find(w)
	return f.values[w], s
}

// add is the value of a term.
func (f *finder) add(t term) (int64, stand) {
	v, s := t.number, found
	for _, r := range t.reads {
		s = max(s, f.find(r))
		v += f.values[r]
	}
	return v, s
}

// ends is what the registers have at the end, when all values are found.
func (f *finder) ends() [][]int64 {
	ends := make([][]int64, len(f.regs))
	for thread, regs := range f.regs {
		for _, t := range regs {
			v, _ := f.add(t)
			ends[thread] = append(ends[thread], v)
		}
	}
	return ends
}

// exec is the candidate with an order of writes, which it takes over, when all values are found.
func (f *finder) exec(order [][]int) api.Exec {
	return api.Exec{
		Events: slices.Clone(f.events),
		Values: slices.Clone(f.values),
		From:   slices.Clone(f.from),
		Order:  order,
		Regs:   f.ends(),
	}
}

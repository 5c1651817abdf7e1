package cand

import (
	"slices"

	"weir/api"
	"weir/event"
)

// term is what a register or a write has: a number, and what some reads have added to it. Which reads they are is known ahead of any value, because no instruction leads elsewhere than to the next one.
type term struct {
	number int64
	reads  []int
}

// try is an instruction that writes, or fails, by what it reads.
type try struct {
	read  int  // the place of its read
	eax   term // what EAX has just ahead of it
	fails bool
}

// layout is a program's events by some fails, and what can be chosen of them.
type layout struct {
	events []api.Event
	writes [][]int  // of each location the places of the writes to it, rising: the initial one is the first
	terms  []term   // of each event what it has, if it is no read
	tries  []try    // as they stand in the program
	regs   [][]term // of each thread what its registers have at the end
}

// layoutOf is a program's layout; with event.List's error.
func layoutOf(p api.Prog, fails api.Set) (layout, api.Errno) {
	events, e := event.List(p, fails)
	if e != api.OK {
		return layout{}, e
	}
	l := layout{events: events, writes: make([][]int, len(p.Locs)), terms: make([]term, len(events))}
	for place, e := range events {
		if e.Kind == api.EInit || e.Kind == api.EWrite {
			l.writes[e.Loc] = append(l.writes[e.Loc], place)
		}
	}
	for loc, v := range p.LocInit {
		l.terms[l.writes[loc][0]] = term{number: v}
	}
	next := len(p.Locs)
	for thread, ops := range p.Threads {
		regs := numbers(p.RegInit[thread])
		for index, op := range ops {
			first := next
			for next < len(events) && events[next].Thread == thread && events[next].Index == index {
				next++
			}
			l.do(op, regs, first, next-first)
		}
		l.regs = append(l.regs, regs)
	}
	return l, api.OK
}

// numbers is terms without reads.
func numbers(values []int64) []term {
	var l []term
	for _, v := range values {
		l = append(l, term{number: v})
	}
	return l
}

// do goes on over an instruction with so many events, from a first one on: what they have, and what its thread's registers have behind it.
func (l *layout) do(op api.Op, regs []term, first, events int) {
	read := term{reads: []int{first}}
	switch op.Kind {
	case api.OMovImm:
		regs[op.Reg] = term{number: op.Imm}
	case api.OMovReg:
		regs[op.Reg] = regs[op.Src]
	case api.OLoad:
		regs[op.Reg] = read
	case api.OStoreImm:
		l.terms[first] = term{number: op.Imm}
	case api.OStoreReg:
		l.terms[first] = regs[op.Src]
	case api.OXchg:
		l.terms[first+1], regs[op.Reg] = regs[op.Reg], read
	case api.OXadd:
		l.terms[first+1], regs[op.Reg] = sum(regs[op.Reg], read), read
	case api.OCmpxchg:
		fails := events == 1
		l.tries = append(l.tries, try{read: first, eax: regs[op.Reg], fails: fails})
		if fails {
			regs[op.Reg] = read
		} else {
			l.terms[first+1] = regs[op.Src]
		}
	}
}

// sum is two terms in one.
func sum(a, b term) term {
	return term{number: a.number + b.number, reads: slices.Concat(a.reads, b.reads)}
}

// reads is the places of the reads.
func (l layout) reads() []int {
	var reads []int
	for place, e := range l.events {
		if e.Kind == api.ERead {
			reads = append(reads, place)
		}
	}
	return reads
}

// sizes is numbers that make, multiplied, how many choices of reads and orders of writes there are: for a read how many writes there are; for a write at how many places it can come among those writes that stand ahead of it.
func (l layout) sizes() []int {
	var sizes []int
	for _, r := range l.reads() {
		sizes = append(sizes, len(l.writes[l.events[r].Loc]))
	}
	for _, writes := range l.writes {
		for i := range writes {
			sizes = append(sizes, max(i, 1)) // an initial write stands where it stands
		}
	}
	return sizes
}

// chooses tells whether a list is a choice of reads.
func (l layout) chooses(from []int) bool {
	if len(from) != len(l.events) {
		return false
	}
	for place, e := range l.events {
		allowed := []int{-1}
		if e.Kind == api.ERead {
			allowed = l.writes[e.Loc]
		}
		if !slices.Contains(allowed, from[place]) {
			return false
		}
	}
	return true
}

// ordered tells whether some lists are an order of writes.
func (l layout) ordered(order [][]int) bool {
	return slices.EqualFunc(order, l.writes, func(a, writes []int) bool {
		return len(a) > 0 && a[0] == writes[0] && slices.Equal(slices.Sorted(slices.Values(a)), writes)
	})
}

// failed is the tries of a program that have no write among some events.
func failed(p api.Prog, l []api.Event) api.Set {
	var fails api.Set
	number := 0
	for thread, ops := range p.Threads {
		for index, op := range ops {
			if op.Kind != api.OCmpxchg {
				continue
			}
			if !slices.ContainsFunc(l, func(e api.Event) bool {
				return e.Kind == api.EWrite && e.Thread == thread && e.Index == index
			}) {
				fails |= 1 << number
			}
			number++
		}
	}
	return fails
}

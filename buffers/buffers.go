// Package buffers is what the machines of x86-TSO (layer 12) and PSO (layer 13) have in common: threads whose writes wait in buffers before one memory, and one lock. The machines differ in the order of the writes that wait, and in nothing else.
package buffers

import (
	"slices"

	"weir/api"
	"weir/sc"
)

// Order is how the writes of a thread wait for memory.
type Order struct {
	Kept  func(buf []api.Write) bool         // whether the writes stand as this order has them
	Place func(buf []api.Write, loc int) int // where a new write to the location is put in
	First func(buf []api.Write, loc int) int // which write a flush with this Loc takes; -1: there is no such flush
}

// See is what a thread sees at a location, whatever the order.
func See(p api.Prog, s api.State, thread, loc int) (int64, api.Errno) {
	if e := check(p, s); e != api.OK {
		return 0, e
	}
	if thread < 0 || thread >= len(p.Threads) || loc < 0 || loc >= len(p.Locs) {
		return 0, api.ErrRange
	}
	return seenBy(s, thread, loc), api.OK
}

// Picks is what can be done next.
func (o Order) Picks(p api.Prog, s api.State) ([]api.Pick, api.Errno) {
	if e := check(p, s); e != api.OK {
		return nil, e
	}
	return o.machineOf(p.Threads).picks(s), api.OK
}

// Step is the state behind a pick.
func (o Order) Step(p api.Prog, s api.State, k api.Pick) (api.State, api.Errno) {
	if e := check(p, s); e != api.OK {
		return api.State{}, e
	}
	next, ok := o.machineOf(p.Threads).step(s, k)
	if !ok {
		return api.State{}, api.ErrPick
	}
	return next, api.OK
}

// Done tells whether all is done.
func (o Order) Done(p api.Prog, s api.State) (bool, api.Errno) {
	if e := check(p, s); e != api.OK {
		return false, e
	}
	return o.machineOf(p.Threads).done(s), api.OK
}

// New is the machine of a program.
func (o Order) New(p api.Prog) (api.Machine, api.Errno) {
	m := o.machineOf(clones(p.Threads)) // the machine outlives the call, the program need not
	return sc.Machine(p, m.picks, m.step, m.done)
}

// Copy is a state like another one, in memory of its own.
func Copy(s api.State) api.State {
	return api.State{
		PC:    slices.Clone(s.PC),
		Phase: slices.Clone(s.Phase),
		Regs:  clones(s.Regs),
		Mem:   slices.Clone(s.Mem),
		Buf:   clones(s.Buf),
		Lock:  s.Lock,
	}
}

// clones is lists like some others, in memory of their own.
func clones[T any](lists [][]T) [][]T {
	l := make([][]T, len(lists))
	for i := range lists {
		l[i] = slices.Clone(lists[i])
	}
	return l
}

// check is the error of a program that is not right, or else of a state that is none of it.
func check(p api.Prog, s api.State) api.Errno {
	_, e := sc.Code(p, s)
	return e
}

package event

import (
	"slices"

	"weir/api"
	"weir/rel"
)

// Of is the events of a kind.
func Of(l []api.Event, kind int) api.Set {
	return those(l, func(e api.Event) bool { return e.Kind == kind })
}

// Memory is the events that read or write.
func Memory(l []api.Event) api.Set { return Of(l, api.ERead) | writes(l) }

// Locked is the events of locked instructions.
func Locked(l []api.Event) api.Set {
	return those(l, func(e api.Event) bool { return e.Locked })
}

// Po is the program's order.
func Po(l []api.Event) api.Rel { return forward(Int(l)) }

// Loc is events of one location.
func Loc(l []api.Event) api.Rel {
	alike := pairs(l, func(a, b api.Event) bool { return a.Loc == b.Loc })
	return rel.Restrict(alike, Memory(l), Memory(l))
}

// Int is events of one thread.
func Int(l []api.Event) api.Rel { return pairs(l, oneThread) }

// Ext is events of unlike threads.
func Ext(l []api.Event) api.Rel { return rel.Not(Int(l)) }

// Rmw is each locked instruction's read and write.
func Rmw(l []api.Event) api.Rel {
	alike := pairs(l, func(a, b api.Event) bool { return oneThread(a, b) && a.Index == b.Index })
	return rel.Restrict(forward(alike), Of(l, api.ERead)&Locked(l), writes(l)&Locked(l))
}

// Rf is from which write each read reads.
func Rf(x api.Exec) api.Rel {
	r := over(x.Events)
	for at, w := range x.From[:min(len(x.From), r.N)] {
		if isPlace(w, r.N) {
			r.Rows[w] |= 1 << at
		}
	}
	return r
}

// Co is the order in which writes to a location come.
func Co(x api.Exec) api.Rel {
	r := over(x.Events)
	for _, l := range x.Order {
		var behind uint64
		for _, a := range slices.Backward(l) {
			if isPlace(a, r.N) {
				r.Rows[a] |= behind
				behind |= 1 << a
			}
		}
	}
	return r
}

// Fr is which writes come behind what a read reads.
func Fr(x api.Exec) api.Rel {
	r := rel.Compose(rel.Inverse(Rf(x)), Co(x))
	return rel.Minus(r, rel.On(r.N, ^api.Set(0))) // in an unruly execution a write may read as well, and come behind what it reads
}

// known is a list of events as the calls take it: one that is too long is taken for the empty one.
func known(l []api.Event) []api.Event {
	if len(l) > api.MaxElems {
		return nil
	}
	return l
}

// over is the relation of no pairs over some events.
func over(l []api.Event) api.Rel { return api.Rel{N: len(known(l))} }

// isPlace tells whether a number is the place of one of n events.
func isPlace(a, n int) bool { return 0 <= a && a < n }

func writes(l []api.Event) api.Set { return Of(l, api.EInit) | Of(l, api.EWrite) }

// oneThread leaves out initial writes, which no thread does: they are not of one thread with themselves.
func oneThread(a, b api.Event) bool { return a.Thread == b.Thread && a.Thread != -1 }

// those is the events of which something is so.
func those(l []api.Event, is func(e api.Event) bool) api.Set {
	var s api.Set
	for i, e := range known(l) {
		if is(e) {
			s |= 1 << i
		}
	}
	return s
}

// pairs is the pairs of events of which something is so.
func pairs(l []api.Event, are func(a, b api.Event) bool) api.Rel {
	l = known(l)
	r := over(l)
	for i, a := range l {
		for k, b := range l {
			if are(a, b) {
				r.Rows[i] |= 1 << k
			}
		}
	}
	return r
}

// forward is the pairs of which the first one stands ahead of the second one.
func forward(r api.Rel) api.Rel {
	for a := range r.N {
		r.Rows[a] &= ^uint64(0) << (a + 1) // nothing of the last of 64: the shift is by the whole width
	}
	return r
}

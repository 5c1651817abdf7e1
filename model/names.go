package model

import (
	"weir/api"
	"weir/event"
	"weir/rel"
)

func relValue(r api.Rel) api.Value { return api.Value{Sort: api.SRel, Rel: r} }

func setValue(s api.Set) api.Value { return api.Value{Sort: api.SSet, Set: s} }

// size is how many events there are; too many are taken for none, as package event does.
func size(l []api.Event) int {
	if len(l) > api.MaxElems {
		return 0
	}
	return len(l)
}

// everything is all of n events.
func everything(n int) api.Set { return api.Set(1)<<n - 1 } // of 64 the shift leaves nothing, and one less than that is all

// baseSet is the set of some events that has a name from the start.
func baseSet(l []api.Event, name string) api.Set {
	switch name {
	case "IW":
		return event.Of(l, api.EInit)
	case "W":
		return event.Of(l, api.EInit) | event.Of(l, api.EWrite)
	case "R":
		return event.Of(l, api.ERead)
	case "M":
		return event.Memory(l)
	case "F":
		return event.Of(l, api.EFence)
	case "L":
		return event.Locked(l)
	}
	return everything(size(l))
}

// baseRel is the relation of an execution that has a name from the start.
func baseRel(x api.Exec, name string) api.Rel {
	l := x.Events
	switch name {
	case "po":
		return event.Po(l)
	case "loc":
		return event.Loc(l)
	case "int":
		return event.Int(l)
	case "ext":
		return event.Ext(l)
	case "rmw":
		return event.Rmw(l)
	case "id":
		return rel.On(size(l), everything(size(l)))
	}
	return sided(x, name)
}

// sided is rf, co or fr, or what of it lies between unlike threads (its name with e behind) or within one (with i).
func sided(x api.Exec, name string) api.Rel {
	var r api.Rel
	switch name[:2] {
	case "rf":
		r = event.Rf(x)
	case "co":
		r = event.Co(x)
	case "fr":
		r = event.Fr(x)
	}
	switch name[2:] {
	case "e":
		return rel.Meet(r, event.Ext(x.Events))
	case "i":
		return rel.Meet(r, event.Int(x.Events))
	}
	return r
}

package axiom

import (
	"weir/api"
	"weir/event"
	"weir/rel"
)

// part is a relation by its name; a relation of the axioms is several of them.
type part struct {
	name  string
	pairs api.Rel
}

// row is a model with the function that makes the parts of its relation.
type row struct {
	model int
	parts func(x api.Exec) []part
}

// rowOf is a model's row; ErrRange: there is no such model.
func rowOf(model int) (row, api.Errno) {
	for _, r := range []row{
		{api.MSC, scParts},
		{api.MTSO, tsoParts},
		{api.MPSO, psoParts},
	} {
		if r.model == model {
			return r, api.OK
		}
	}
	return row{}, api.ErrRange
}

// uniprocParts is what each location by itself has.
func uniprocParts(x api.Exec) []part {
	return plainParts(x, rel.Meet(event.Po(x.Events), event.Loc(x.Events)))
}

func scParts(x api.Exec) []part { return plainParts(x, event.Po(x.Events)) }

// tsoParts lets a read come ahead of the writes in front of it, which may wait.
func tsoParts(x api.Exec) []part {
	l := x.Events
	po := rel.Restrict(event.Po(l), event.Memory(l), event.Memory(l))
	return bufferedParts(x, rel.Minus(po, rel.Cross(po.N, writes(l), event.Of(l, api.ERead))))
}

// psoParts lets all come ahead of the writes in front of it.
func psoParts(x api.Exec) []part {
	l := x.Events
	return bufferedParts(x, rel.Restrict(event.Po(l), event.Of(l, api.ERead), event.Memory(l)))
}

// plainParts is the parts for what is seen by all at once; po is what counts of the program's order.
func plainParts(x api.Exec, po api.Rel) []part {
	return []part{{"po", po}, {"rf", event.Rf(x)}, {"co", event.Co(x)}, {"fr", event.Fr(x)}}
}

// bufferedParts is the parts of a model in which writes may wait; po is what counts of the program's order without fences and locks.
func bufferedParts(x api.Exec, po api.Rel) []part {
	return []part{
		{"po", po}, {"fence", fenced(x.Events)}, {"lock", locked(x.Events)},
		{"rfe", rel.Meet(event.Rf(x), event.Ext(x.Events))}, {"co", event.Co(x)}, {"fr", event.Fr(x)},
	}
}

// labelParts is all relations that have a label.
func labelParts(x api.Exec) []part {
	l := x.Events
	parts := []part{{"po", event.Po(l)}, {"fence", fenced(l)}, {"lock", locked(l)}}
	for _, p := range []part{{"rf", event.Rf(x)}, {"co", event.Co(x)}, {"fr", event.Fr(x)}} {
		parts = append(parts,
			part{p.name + "e", rel.Meet(p.pairs, event.Ext(l))},
			part{p.name + "i", rel.Meet(p.pairs, event.Int(l))})
	}
	return parts
}

// fenced is the pairs with a fence between; either may be a fence itself.
func fenced(l []api.Event) api.Rel {
	po := event.Po(l)
	return rel.Compose(rel.Restrict(po, ^api.Set(0), event.Of(l, api.EFence)), po)
}

// locked is the pairs of the program's order to which a locked instruction gives weight.
func locked(l []api.Event) api.Rel {
	po, memory := event.Po(l), event.Memory(l)
	one := memory & event.Locked(l)
	return rel.Union(rel.Restrict(po, one, memory), rel.Restrict(po, memory, one))
}

func writes(l []api.Event) api.Set { return event.Of(l, api.EInit) | event.Of(l, api.EWrite) }

// joined is the pairs of all parts; there is one part at least.
func joined(parts []part) api.Rel {
	r := parts[0].pairs
	for _, p := range parts[1:] {
		r = rel.Union(r, p.pairs)
	}
	return r
}

// nameOf is the name of the first part in which a pair stands.
func nameOf(parts []part, a, b int) string {
	for _, p := range parts {
		if rel.Has(p.pairs, a, b) {
			return p.name
		}
	}
	return ""
}

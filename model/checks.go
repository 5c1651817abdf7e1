package model

import (
	"math/bits"

	"weir/api"
	"weir/rel"
)

// check is a kind of rule: whether a term holds, and if it does not, what shows it.
type check struct {
	holds func(v api.Value) bool
	round func(v api.Value) []int
}

// checkOf is the check of a kind of rule; a let is none, and holds of all.
func checkOf(kind int) check {
	switch kind {
	case api.RAcyclic:
		return check{func(v api.Value) bool { return rel.Acyclic(v.Rel) }, cycle}
	case api.RIrreflexive:
		return check{func(v api.Value) bool { return rel.Irreflexive(v.Rel) }, self}
	case api.REmpty:
		return check{func(v api.Value) bool { return len(first(v)) == 0 }, first}
	}
	return check{holds: func(api.Value) bool { return true }}
}

func cycle(v api.Value) []int {
	l, _ := rel.Cycle(v.Rel)
	return l
}

// self is the least number that stands to itself.
func self(v api.Value) []int {
	for a := range v.Rel.N {
		if rel.Has(v.Rel, a, a) {
			return []int{a}
		}
	}
	return nil
}

// first is the first thing that there is: a pair, or a member.
func first(v api.Value) []int {
	if v.Sort == api.SSet {
		if v.Set == 0 {
			return nil
		}
		return []int{bits.TrailingZeros64(uint64(v.Set))}
	}
	for e := range rel.Edges(v.Rel) {
		return []int{e.A, e.B}
	}
	return nil
}

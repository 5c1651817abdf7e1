package robust

import (
	"slices"

	"weir/api"
	"weir/rel"
	"weir/sets"
)

// node is an instruction and its place.
type node struct {
	at api.Where
	op api.Op
}

// suspects is the suspect slots of a program that is right.
func suspects(p api.Prog) api.Set {
	l, all := nodes(p), slots(p)
	ways := rel.Plus(steps(l))
	var s api.Set
	for b, x := range l {
		if x.op.Kind == api.OLoad && isSuspect(l, ways, b) {
			s = sets.With(s, slices.Index(all, x.at))
		}
	}
	return s
}

// isSuspect tells whether the load l[b] may overtake a store to which a way leads back.
func isSuspect(l []node, ways api.Rel, b int) bool {
	for a := b - 1; a >= 0 && l[a].at.I == l[b].at.I && !drains(l[a].op); a-- {
		if isStore(l[a].op) && l[a].op.Loc != l[b].op.Loc && rel.Has(ways, b, a) {
			return true
		}
	}
	return false
}

// nodes is a program's instructions but for moves, thread by thread. Each has an event, so there is a relation over them.
func nodes(p api.Prog) []node {
	var l []node
	for i, thread := range p.Threads {
		for k, op := range thread {
			if op.Kind != api.OMovImm && op.Kind != api.OMovReg {
				l = append(l, node{api.Where{Part: api.WInstr, I: i, K: k}, op})
			}
		}
	}
	return l
}

// steps is the steps of ways. Fences have some too, which do no harm: to where one leads each instruction ahead of it leads by itself.
func steps(l []node) api.Rel {
	var pairs []api.Edge
	for a, x := range l {
		for b, y := range l {
			if x.at.I == y.at.I && a < b || x.at.I != y.at.I && meet(x.op, y.op) {
				pairs = append(pairs, api.Edge{A: a, B: b})
			}
		}
	}
	r, _ := rel.Of(len(l), pairs)
	return r
}

// meet tells whether it can be told which of two instructions of unlike threads came first.
func meet(x, y api.Op) bool {
	return x.Kind != api.OFence && y.Kind != api.OFence && x.Loc == y.Loc && (x.Kind != api.OLoad || y.Kind != api.OLoad)
}

// drains tells whether a thread goes past an instruction with an empty buffer alone.
func drains(op api.Op) bool {
	switch op.Kind {
	case api.OFence, api.OXchg, api.OCmpxchg, api.OXadd:
		return true
	}
	return false
}

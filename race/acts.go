package race

import "weir/api"

// act is an instruction at its place.
type act struct {
	at   api.Where
	op   api.Op
	late bool // it is a load, and a store ahead of it in its thread may still wait
}

// acts is a program's instructions, thread by thread.
func acts(p api.Prog) [][]act {
	all := make([][]act, len(p.Threads))
	for i, thread := range p.Threads {
		waits := false
		for k, op := range thread {
			at := api.Where{Part: api.WInstr, I: i, K: k}
			all[i] = append(all[i], act{at, op, waits && op.Kind == api.OLoad})
			waits = isStore(op) || waits && !drains(op)
		}
	}
	return all
}

// raceOf is the race of two instructions; false: it is none where both are next.
func raceOf(a, b act) (api.Race, bool) {
	if a.at.I > b.at.I {
		a, b = b, a
	}
	if a.at.I == b.at.I || !clash(a.op, b.op) {
		return api.Race{}, false
	}
	return api.Race{A: a.at, B: b.at, Triangle: a.late || b.late}, true // beside a load the other one writes, or they would not clash
}

// clash tells whether two instructions of unlike threads touch one location so that it counts which comes first, and no lock is around both.
func clash(a, b api.Op) bool {
	return touches(a) && touches(b) && a.Loc == b.Loc && (writes(a) || writes(b)) && !(isLocked(a) && isLocked(b))
}

func touches(op api.Op) bool { return op.Kind == api.OLoad || writes(op) }

func writes(op api.Op) bool { return isStore(op) || isLocked(op) }

func isStore(op api.Op) bool { return op.Kind == api.OStoreImm || op.Kind == api.OStoreReg }

func isLocked(op api.Op) bool {
	return op.Kind == api.OXchg || op.Kind == api.OCmpxchg || op.Kind == api.OXadd
}

// drains tells whether no store of the thread waits behind an instruction.
func drains(op api.Op) bool { return op.Kind == api.OFence || isLocked(op) }

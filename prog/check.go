package prog

import (
	"strings"

	"weir/api"
	"weir/cond"
	"weir/lexis"
)

func checkThreads(t api.Test) (api.Where, api.Errno) {
	switch n := len(t.Threads); {
	case n == 0:
		return api.Where{Part: api.WThread}, api.ErrThreads
	case n > api.MaxThreads:
		return api.Where{Part: api.WThread, I: api.MaxThreads}, api.ErrThreads
	}
	return api.Where{}, api.OK
}

func checkSettings(t api.Test) (api.Where, api.Errno) {
	if len(t.Inits) > api.MaxInits {
		return api.Where{Part: api.WInit, I: api.MaxInits}, api.ErrLong
	}
	seen := map[api.Ref]int{}
	for i, x := range t.Inits {
		if e := checkSet(x.Ref, len(t.Threads)); e != api.OK {
			return api.Where{Part: api.WInit, I: i}, e
		}
		seen[x.Ref]++
		if seen[x.Ref] > 1 {
			return api.Where{Part: api.WInit, I: i}, api.ErrTwice
		}
	}
	return api.Where{}, api.OK
}

// checkSet tells what keeps a reference from being set.
func checkSet(r api.Ref, threads int) api.Errno {
	switch {
	case r.Thread == -1 && !lexis.Name(r.Name):
		return api.ErrName
	case r.Thread == -1:
		return api.OK
	case r.Thread < 0 || r.Thread >= threads:
		return api.ErrUnknown
	case !Register(r.Name):
		return api.ErrReg
	}
	return api.OK
}

func checkInstrs(t api.Test) (api.Where, api.Errno) {
	for i, l := range t.Threads {
		for k, in := range l {
			if e := checkForm(in); e != api.OK {
				return api.Where{Part: api.WInstr, I: i, K: k}, e
			}
		}
	}
	return api.Where{}, api.OK
}

func checkSizes(t api.Test, names map[api.Ref]int) (api.Where, api.Errno) {
	regs, locs := lists(names, len(t.Threads))
	for k, l := range regs {
		if len(l) > api.MaxRegs {
			return api.Where{Part: api.WThread, I: k}, api.ErrRegisters
		}
	}
	if len(locs) > api.MaxLocs {
		return api.Where{Part: api.WThread}, api.ErrLocs
	}
	events := len(locs)
	for _, l := range t.Threads {
		for _, in := range l {
			events += eventsOf(in.Op)
		}
	}
	if events > api.MaxEvents {
		return api.Where{Part: api.WThread}, api.ErrEvents
	}
	return api.Where{}, api.OK
}

func checkWatch(t api.Test, names map[api.Ref]int) (api.Where, api.Errno) {
	seen := map[api.Ref]int{}
	for i, r := range t.Watch {
		if names[r] == 0 {
			return api.Where{Part: api.WWatch, I: i}, api.ErrUnknown
		}
		seen[r]++
		if seen[r] > 1 {
			return api.Where{Part: api.WWatch, I: i}, api.ErrTwice
		}
	}
	return api.Where{}, api.OK
}

func checkCond(t api.Test, names map[api.Ref]int) (api.Where, api.Errno) {
	if e := cond.Check(t.Cond); e != api.OK {
		return api.Where{Part: api.WCond}, e
	}
	for i, n := range t.Cond {
		if n.Op == api.CIs && names[n.Ref] == 0 {
			return api.Where{Part: api.WCond, I: i}, api.ErrUnknown
		}
	}
	return api.Where{}, api.OK
}

// checkRest asks for the quantifier and for what stands at a file's head.
func checkRest(t api.Test) (api.Where, api.Errno) {
	switch {
	case t.Quant != api.Exists && t.Quant != api.NotExists && t.Quant != api.Forall:
		return api.Where{Part: api.WCond}, api.ErrOp
	case !lexis.Name(t.Name):
		return api.Where{Part: api.WInit}, api.ErrName
	case strings.ContainsAny(t.Doc, "\"\n"):
		return api.Where{Part: api.WInit}, api.ErrToken
	}
	return api.Where{}, api.OK
}

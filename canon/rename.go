package canon

import (
	"slices"
	"strings"

	"weir/api"
	"weir/lexis"
	"weir/odo"
	"weir/prog"
)

// eax is the register that CMPXCHG has without naming it.
const eax = "EAX"

// compares tells whether a thread has a CMPXCHG.
func compares(l []api.Instr) bool {
	return slices.ContainsFunc(l, func(in api.Instr) bool { return in.Op == api.OCmpxchg })
}

// right tells whether a renaming is right for a test, whose program is p.
func right(t api.Test, p api.Prog, r api.Renaming) bool {
	orders, e := odo.Orders(len(t.Threads))
	if e != api.OK {
		return false
	}
	if _, e := orders.Rank(r.Threads); e != api.OK || len(r.Regs) != len(t.Threads) {
		return false
	}
	for k, changes := range r.Regs {
		if !fits(p.Regs[k], changes, prog.Register) || compares(t.Threads[k]) && become(eax, changes) != eax {
			return false
		}
	}
	return fits(p.Locs, r.Locs, lexis.Name)
}

// fits tells whether changes rise, and make of names that are all unlike such names again.
func fits(names []string, changes []api.Change, isName func(string) bool) bool {
	for i := 1; i < len(changes); i++ {
		if changes[i-1].From >= changes[i].From {
			return false
		}
	}
	var l []string
	for _, s := range names {
		s = become(s, changes)
		if !isName(s) || slices.Contains(l, s) {
			return false
		}
		l = append(l, s)
	}
	return true
}

// become is what changes, which rise, make of a name. What is empty is no name, but a field that an instruction does not use.
func become(s string, changes []api.Change) string {
	i, ok := slices.BinarySearchFunc(changes, s, func(c api.Change, s string) int { return strings.Compare(c.From, s) })
	if !ok || s == "" {
		return s
	}
	return changes[i].To
}

// renamed is a test under a renaming that is right.
func renamed(t api.Test, r api.Renaming) api.Test {
	out := api.Test{Name: t.Name, Doc: t.Doc, Threads: make([][]api.Instr, len(t.Threads)), Quant: t.Quant}
	for k, l := range t.Threads {
		out.Threads[r.Threads[k]] = renamedThread(l, r.Regs[k], r.Locs)
	}
	for _, x := range t.Inits {
		out.Inits = append(out.Inits, api.Init{Ref: renamedRef(x.Ref, r), Value: x.Value})
	}
	for _, x := range t.Watch {
		out.Watch = append(out.Watch, renamedRef(x, r))
	}
	for _, n := range t.Cond {
		if n.Op == api.CIs {
			n.Ref = renamedRef(n.Ref, r)
		}
		out.Cond = append(out.Cond, n)
	}
	return out
}

func renamedThread(l []api.Instr, regs, locs []api.Change) []api.Instr {
	out := make([]api.Instr, len(l))
	for i, in := range l {
		in.Reg, in.Src, in.Loc = become(in.Reg, regs), become(in.Src, regs), become(in.Loc, locs)
		out[i] = in
	}
	return out
}

func renamedRef(x api.Ref, r api.Renaming) api.Ref {
	if x.Thread == -1 {
		return api.Ref{Thread: -1, Name: become(x.Name, r.Locs)}
	}
	return api.Ref{Thread: r.Threads[x.Thread], Name: become(x.Name, r.Regs[x.Thread])}
}

package prog

import (
	"slices"

	"weir/api"
)

// namesOf is the registers and locations of a test whose settings and instructions are right, each with how often it stands there.
func namesOf(t api.Test) map[api.Ref]int {
	names := map[api.Ref]int{}
	for _, x := range t.Inits {
		names[x.Ref]++
	}
	for k, l := range t.Threads {
		for _, in := range l {
			countNames(names, named(in), k)
		}
	}
	return names
}

func countNames(names map[api.Ref]int, in api.Instr, thread int) {
	if in.Reg != "" {
		names[api.Ref{Thread: thread, Name: in.Reg}]++
	}
	if in.Src != "" {
		names[api.Ref{Thread: thread, Name: in.Src}]++
	}
	if in.Loc != "" {
		names[api.Ref{Thread: -1, Name: in.Loc}]++
	}
}

// lists is the registers of each thread, and the locations, rising.
func lists(names map[api.Ref]int, threads int) ([][]string, []string) {
	regs := make([][]string, threads)
	var locs []string
	for r := range names {
		if r.Thread == -1 {
			locs = append(locs, r.Name)
		} else {
			regs[r.Thread] = append(regs[r.Thread], r.Name)
		}
	}
	for _, l := range regs {
		slices.Sort(l)
	}
	slices.Sort(locs)
	return regs, locs
}

// numbersOf is the number of each register among those of its thread, and of each location.
func numbersOf(p api.Prog) map[api.Ref]int {
	numbers := map[api.Ref]int{}
	for k, l := range p.Regs {
		for i, s := range l {
			numbers[api.Ref{Thread: k, Name: s}] = i
		}
	}
	for i, s := range p.Locs {
		numbers[api.Ref{Thread: -1, Name: s}] = i
	}
	return numbers
}

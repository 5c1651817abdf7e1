package canon

import (
	"cmp"
	"slices"
	"strings"

	"weir/api"
)

// registers is the names that registers are given, in the order in which they are.
var registers = [...]string{
	"EAX", "EBX", "ECX", "EDX", "ESI", "EDI", "EBP", "ESP",
	"R8", "R9", "R10", "R11", "R12", "R13", "R14", "R15",
}

func regName(n int) string { return registers[n] }

// locName is the name that the nth location is given; there are fewer locations than letters.
func locName(n int) string { return string(rune('a' + n)) }

// regChanges is the names that a test's forms give to the registers of each thread. They are the same by all orders, as a thread's registers are its own.
func regChanges(t api.Test, p api.Prog) [][]api.Change {
	all := make([][]api.Change, len(t.Threads))
	for k, l := range t.Threads {
		var names []string
		if compares(l) { // the first one is given the name EAX
			names = append(names, eax)
		}
		for _, in := range l {
			names = append(names, in.Reg, in.Src)
		}
		names = append(names, asked(t, k)...)
		names = append(names, byValue(p.Regs[k], p.RegInit[k])...)
		all[k] = given(names, regName)
	}
	return all
}

// locChanges is the names that a test's form by an order gives to its locations.
func locChanges(t api.Test, p api.Prog, order []int) []api.Change {
	var names []string
	for _, k := range order {
		for _, in := range t.Threads[k] {
			names = append(names, in.Loc)
		}
	}
	names = append(names, asked(t, -1)...)
	names = append(names, byValue(p.Locs, p.LocInit)...)
	return given(names, locName)
}

// asked is the names of a thread's registers, or of locations, in the condition and then among what is watched.
func asked(t api.Test, thread int) []string {
	var names []string
	for _, n := range t.Cond {
		if n.Op == api.CIs && n.Ref.Thread == thread {
			names = append(names, n.Ref.Name)
		}
	}
	for _, r := range t.Watch {
		if r.Thread == thread {
			names = append(names, r.Name)
		}
	}
	return names
}

// byValue is names by their rising values, those of one value as they stood.
func byValue(names []string, values []int64) []string {
	numbers := make([]int, len(names))
	for i := range numbers {
		numbers[i] = i
	}
	slices.SortStableFunc(numbers, func(i, k int) int { return cmp.Compare(values[i], values[k]) })
	l := make([]string, len(names))
	for i, n := range numbers {
		l[i] = names[n]
	}
	return l
}

// given is the changes by which names become those that name says, in the order in which they come first. An empty one is none: it is a field that an instruction does not use.
func given(names []string, name func(int) string) []api.Change {
	var changes []api.Change
	for _, s := range names {
		if s != "" && !slices.ContainsFunc(changes, func(c api.Change) bool { return c.From == s }) {
			changes = append(changes, api.Change{From: s, To: name(len(changes))})
		}
	}
	slices.SortFunc(changes, func(a, b api.Change) int { return strings.Compare(a.From, b.From) })
	return changes
}

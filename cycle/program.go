package cycle

import (
	"strconv"
	"strings"

	"weir/api"
)

// unnamed is the name of the test of a cycle whose edges' names are too long to be one.
const unnamed = "cycle"

// testOf is the test of a cycle in its canonical form.
func testOf(l []int) api.Test {
	all := eventsOf(l)
	asked := append(readsAsked(all), writesAsked(all, count(l, leadsAway))...)
	return api.Test{Name: nameOf(l), Threads: threadsOf(all, count(l, goesOut)), Quant: api.Exists, Cond: joined(asked)}
}

func nameOf(l []int) string {
	s := strings.Join(namesOf(l), "+")
	if len(s) > api.MaxName {
		return unnamed
	}
	return s
}

func locName(n int) string { return "x" + strconv.Itoa(n) }

func threadsOf(all []event, n int) [][]api.Instr {
	threads := make([][]api.Instr, n)
	for _, x := range all {
		l := append(threads[x.thread], instrOf(x))
		if x.fenced {
			l = append(l, api.Instr{Op: api.OFence})
		}
		threads[x.thread] = l
	}
	return threads
}

func instrOf(x event) api.Instr {
	if x.kind == read {
		return api.Instr{Op: api.OLoad, Reg: x.reg, Loc: locName(x.loc)}
	}
	return api.Instr{Op: api.OStoreImm, Loc: locName(x.loc), Imm: x.value}
}

// readsAsked is an equation for each read that is asked for.
func readsAsked(all []event) []api.Node {
	var l []api.Node
	for _, x := range all {
		if x.asked {
			l = append(l, is(x.thread, x.reg, x.value))
		}
	}
	return l
}

// writesAsked is an equation for each location with more writes than one: the last of them stays.
func writesAsked(all []event, locs int) []api.Node {
	writes := make([]int64, locs)
	for _, x := range all {
		if x.kind == write {
			writes[x.loc]++
		}
	}
	var l []api.Node
	for i, n := range writes {
		if n > 1 {
			l = append(l, is(-1, locName(i), n))
		}
	}
	return l
}

func is(thread int, name string, value int64) api.Node {
	return api.Node{Op: api.CIs, Ref: api.Ref{Thread: thread, Name: name}, Value: value}
}

// joined is the condition that asks for all equations. There is one at least: each edge that goes out asks for a read, or leads to a write that is not the only one.
func joined(l []api.Node) api.Cond {
	var c api.Cond
	for i, n := range l {
		c = append(c, n)
		if i > 0 {
			c = append(c, api.Node{Op: api.CAnd, A: len(c) - 2, B: len(c) - 1})
		}
	}
	return c
}

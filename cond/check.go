package cond

import (
	"weir/api"
	"weir/lexis"
)

// maxThread is the greatest thread that a text of four digits names.
const maxThread = 9999

// makes tells whether nodes make a condition. Each node is made of a run of nodes that ends with itself: it is enough to know where the runs begin.
func makes(c api.Cond) bool {
	if len(c) == 0 || len(c) > api.MaxNodes {
		return false
	}
	first := make([]int, len(c))
	for i, n := range c {
		if !fields(n) {
			return false
		}
		begin, ok := run(first[:i], n)
		if !ok {
			return false
		}
		first[i] = begin
	}
	return first[len(c)-1] == 0
}

// fields tells whether a node has the fields that its Op has, and no others.
func fields(n api.Node) bool {
	switch n.Op {
	case api.CTrue:
		return n == api.Node{Op: api.CTrue}
	case api.CIs:
		return n.A == 0 && n.B == 0 && -1 <= n.Ref.Thread && n.Ref.Thread <= maxThread && lexis.Name(n.Ref.Name)
	case api.CNot:
		return n == api.Node{Op: api.CNot, A: n.A}
	case api.CAnd, api.COr:
		return n == api.Node{Op: n.Op, A: n.A, B: n.B}
	}
	return false
}

// run is where the nodes begin of which the next node is made, first telling it of those ahead; false: its parts don't stand right ahead of it.
func run(first []int, n api.Node) (int, bool) {
	at := len(first)
	switch n.Op {
	case api.CNot:
		if at == 0 || n.A != at-1 {
			return 0, false
		}
		return first[n.A], true
	case api.CAnd, api.COr:
		if at == 0 || n.B != at-1 || first[n.B] == 0 || n.A != first[n.B]-1 {
			return 0, false
		}
		return first[n.A], true
	}
	return at, true
}

// bracketed tells whether the text has brackets around a part of a node.
func bracketed(c api.Cond, part, of int) bool {
	inner, outer := c[part].Op, c[of].Op
	last := part == c[of].B
	switch outer {
	case api.CNot:
		return inner == api.CAnd || inner == api.COr
	case api.CAnd:
		return inner == api.COr || inner == api.CAnd && last
	}
	return inner == api.COr && last
}

// deepest is how many ( and ~ of a condition's text stand within one another at most.
func deepest(c api.Cond) int {
	var deep func(i int) int
	part := func(i, of int) int {
		if bracketed(c, i, of) {
			return deep(i) + 1
		}
		return deep(i)
	}
	deep = func(i int) int {
		switch n := c[i]; n.Op {
		case api.CNot:
			return part(n.A, i) + 1
		case api.CAnd, api.COr:
			return max(part(n.A, i), part(n.B, i))
		}
		return 0
	}
	return deep(len(c) - 1)
}

package cycle

import (
	"iter"
	"slices"
)

// need is what the edges that are still to be laid must do: begin with an event, go out and lead away so many times at least.
type need struct {
	from, outs, aways int
}

// past is what is needed behind an edge.
func (x need) past(n int) need {
	x.from = edges[n].to
	if goesOut(n) {
		x.outs = max(x.outs-1, 0)
	}
	if leadsAway(n) {
		x.aways = max(x.aways-1, 0)
	}
	return x
}

// needs tells which needs can be met.
type needs [2][leastOut + 1][leastAway + 1]bool

// walk lays edges one behind the other, so that they come back to where the first one begins, and the last one goes out.
type walk struct {
	some []int   // the edges that may be laid, rising
	size int     // how many are laid in all
	can  []needs // what can be met, by how many edges are still to be laid
}

// walkOf is the walk from an event back to such a one. What can be met is reckoned ahead: where no edge goes out or leads away, say, long lists would be laid for nothing, and they are many.
func walkOf(some []int, size, start int) walk {
	w := walk{some: some, size: size, can: make([]needs, size+1)}
	w.can[0][start][0][0] = true
	for left := 1; left <= size; left++ {
		for from := range w.can[left] {
			for outs := range leastOut + 1 {
				for aways := range leastAway + 1 {
					fits := func(n int) bool { return w.fits(n, left, need{from, outs, aways}) }
					w.can[left][from][outs][aways] = slices.ContainsFunc(some, fits)
				}
			}
		}
	}
	return w
}

// fits tells whether an edge may be laid, if so many are still to be laid that must do this.
func (w walk) fits(n, left int, x need) bool {
	if edges[n].from != x.from || left == 1 && !goesOut(n) {
		return false
	}
	y := x.past(n)
	return w.can[left-1][y.from][y.outs][y.aways]
}

// on goes through the canonical forms that begin with l, rising; false: it was left. It hands out one list again and again.
func (w walk) on(l []int, x need, yield func([]int) bool) bool {
	left := w.size - len(l)
	if left == 0 {
		return !slices.Equal(canonical(l), l) || yield(l)
	}
	for _, n := range w.some {
		longer := append(l, n)
		if w.fits(n, left, x) && !beaten(longer) && !w.on(longer, x.past(n), yield) {
			return false
		}
	}
	return true
}

// beaten tells whether one of a list's turns comes ahead of it, whatever is laid behind.
func beaten(l []int) bool {
	for i := 1; i < len(l); i++ {
		if goesOut(l[i-1]) && slices.Compare(l[i:], l[:len(l)-i]) < 0 {
			return true
		}
	}
	return false
}

// cycles goes through the canonical forms of so many of some edges, which rise; so do they. It hands out one list again and again.
func cycles(some []int, size int) iter.Seq[[]int] {
	return func(yield func([]int) bool) {
		walks := [...]walk{write: walkOf(some, size, write), read: walkOf(some, size, read)}
		for _, n := range some {
			x := need{edges[n].from, leastOut, leastAway}
			first := append(make([]int, 0, size), n)
			if !walks[x.from].on(first, x.past(n), yield) {
				return
			}
		}
	}
}

package explore

import (
	"math/bits"

	"weir/api"
)

// graph is states, by their numbers, and the moves between them.
type graph struct {
	ways   []uint64 // how many ways lead from the state to ends, as far as they are counted
	left   []int    // how many of its moves lead to states that are not counted yet
	before [][]int  // for each move to it the state from which that leads
}

// addState puts a state behind the others.
func (g *graph) addState(end bool) {
	var ways uint64
	if end {
		ways = 1 // the way of no moves
	}
	g.ways = append(g.ways, ways)
	g.left = append(g.left, 0)
	g.before = append(g.before, nil)
}

func (g *graph) addMove(from, to int) {
	g.left[from]++
	g.before[to] = append(g.before[to], from)
}

// runs is how many ways lead from the first state to ends. It counts back from the states without moves: no state has more ways to ends than the first one, so that a sum that leaves its type tells of that one too.
func (g *graph) runs() (uint64, api.Errno) {
	var ready []int
	for n, moves := range g.left {
		if moves == 0 {
			ready = append(ready, n)
		}
	}
	counted := 0
	for ; len(ready) > 0; counted++ {
		n := ready[len(ready)-1]
		ready = ready[:len(ready)-1]
		for _, from := range g.before[n] {
			sum, carry := bits.Add64(g.ways[from], g.ways[n], 0)
			if carry != 0 {
				return 0, api.ErrCount
			}
			g.ways[from] = sum
			g.left[from]--
			if g.left[from] == 0 {
				ready = append(ready, from)
			}
		}
	}
	if counted < len(g.ways) { // the others' moves lead round
		return 0, api.ErrCount
	}
	return g.ways[0], api.OK
}

package explore_test

import (
	"fmt"
	"math"
	"slices"
	"testing"

	"weir/api"
	"weir/explore"
	"weir/state"
)

// The words of the chapter, said of charts.

// saysOrder is the numbers of the reachable states, breadth first.
func (c chart) saysOrder() []int {
	order := []int{0}
	for i := 0; i < len(order); i++ {
		for _, k := range c[order[i]].picks {
			if to := target(k); to >= 0 && !slices.Contains(order, to) {
				order = append(order, to)
			}
		}
	}
	return order
}

// behind is the nodes to which ways of n picks lead from a node.
func (c chart) behind(from, n int) map[int]int {
	at := map[int]int{from: 1}
	for range n {
		next := map[int]int{}
		for i := range at {
			for _, k := range c[i].picks {
				if target(k) >= 0 {
					next[target(k)]++
				}
			}
		}
		at = next
	}
	return at
}

// saysDepth is the least number of picks of a way to a reachable state.
func (c chart) saysDepth(to int) int {
	for n := 0; ; n++ {
		if c.behind(0, n)[to] > 0 {
			return n
		}
	}
}

// saysWay is the first shortest way to a reachable state.
func (c chart) saysWay(to int) []api.Pick {
	if to == 0 {
		return nil
	}
	for _, from := range c.saysOrder() {
		for _, k := range c[from].picks {
			if target(k) == to {
				return append(c.saysWay(from), k)
			}
		}
	}
	panic("no way")
}

// saysTally is how much there is, and saysFinals the final states of the ends.
func (c chart) saysTally() (tally api.Tally) {
	for _, i := range c.saysOrder() {
		moves := 0
		for _, k := range c[i].picks {
			if target(k) >= 0 {
				moves++
			}
		}
		tally.States++
		tally.Moves += moves
		if c[i].end {
			tally.Ends++
		} else if moves == 0 {
			tally.Stuck++
		}
	}
	return tally
}

func (c chart) saysFinals() []api.Final {
	var l []api.Final
	for _, i := range c.saysOrder() {
		if c[i].end {
			l = append(l, c[i].final)
		}
	}
	return state.Sort(l)
}

func (c chart) saysWays() []api.Way {
	var l []api.Way
	for _, f := range c.saysFinals() {
		order := c.saysOrder()
		at := slices.IndexFunc(order, func(i int) bool { return c[i].end && c[i].final == f })
		l = append(l, api.Way{Final: f, Picks: c.saysWay(order[at])})
	}
	return l
}

// leadsRound is whether a way of one move or more leads from a reachable state back to it.
func (c chart) leadsRound() bool {
	for _, i := range c.saysOrder() {
		for n := 1; n <= len(c); n++ {
			if c.behind(i, n)[i] > 0 {
				return true
			}
		}
	}
	return false
}

// saysRuns goes every way there is, one by one; of a chart that leads round there is no end to it.
func (c chart) saysRuns() (uint64, api.Errno) {
	if c.leadsRound() {
		return 0, api.ErrCount
	}
	var ways func(from int) uint64
	ways = func(from int) uint64 {
		n := uint64(0)
		if c[from].end {
			n++
		}
		for _, k := range c[from].picks {
			if target(k) >= 0 {
				n += ways(target(k))
			}
		}
		return n
	}
	return ways(0), api.OK
}

func sameWays(a, b []api.Way) bool {
	return slices.EqualFunc(a, b, func(v, w api.Way) bool { return v.Final == w.Final && slices.Equal(v.Picks, w.Picks) })
}

// call is a call that is held against the words, and what it asks.
func (c chart) call(t *testing.T, ask func(m api.Machine)) {
	t.Helper()
	order := c.saysOrder()
	m, w := watched(c.machine())
	ask(m)
	w.hold(t, c.machine(), func(text string) bool {
		return slices.ContainsFunc(order, func(i int) bool { return c[i].text == text })
	})
}

// holdStates holds the walk against 14.1.
func (c chart) holdStates(t *testing.T) {
	t.Helper()
	order := c.saysOrder()
	c.call(t, func(m api.Machine) {
		at := 0
		for text, depth := range explore.States(m) {
			if at >= len(order) || text != c[order[at]].text || depth != c.saysDepth(order[at]) {
				t.Fatalf("States of %v: at %d %q with depth %d; want %v", c, at, text, depth, order)
			}
			at++
		}
		if at != len(order) {
			t.Fatalf("States of %v: %d states; want %v", c, at, order)
		}
	})
}

// holdMost holds Explore, Ways and Runs with a bound against 14.2, 14.4, 14.5.
func (c chart) holdMost(t *testing.T, most int) {
	t.Helper()
	finals, tally, ways, err := c.saysFinals(), c.saysTally(), c.saysWays(), api.OK
	runs, endless := c.saysRuns()
	if len(c.saysOrder()) > most {
		finals, tally, ways, err = nil, api.Tally{}, nil, api.ErrLong
		runs, endless = 0, api.ErrLong
	}
	c.call(t, func(m api.Machine) {
		if l, y, e := explore.Explore(m, most); e != err || y != tally || !slices.Equal(l, finals) {
			t.Fatalf("Explore(%v, %d): %v, %v, %d; want %v, %v, %d", c, most, l, y, e, finals, tally, err)
		}
	})
	c.call(t, func(m api.Machine) {
		if l, e := explore.Ways(m, most); e != err || !sameWays(l, ways) {
			t.Fatalf("Ways(%v, %d): %v, %d; want %v, %d", c, most, l, e, ways, err)
		}
	})
	c.call(t, func(m api.Machine) {
		if n, e := explore.Runs(m, most); e != endless || n != runs {
			t.Fatalf("Runs(%v, %d): %d, %d; want %d, %d", c, most, n, e, runs, endless)
		}
	})
}

// holdWay holds Way with a bound to some of the nodes against 14.3, and of which states it asks the goal.
func (c chart) holdWay(t *testing.T, most int, goals ...int) {
	t.Helper()
	order := c.saysOrder()
	var want []api.Pick
	err, asked := api.ErrNone, order
	if len(order) > most {
		err, asked = api.ErrLong, order[:max(0, most)]
	}
	for at, i := range asked {
		if slices.Contains(goals, i) {
			want, err, asked = c.saysWay(i), api.OK, order[:at+1]
			break
		}
	}
	var texts []string
	for _, i := range asked {
		texts = append(texts, c[i].text)
	}
	c.call(t, func(m api.Machine) {
		var seen []string
		l, e := explore.Way(m, most, func(text string) bool {
			seen = append(seen, text)
			return slices.ContainsFunc(goals, func(i int) bool { return c[i].text == text })
		})
		if e != err || !slices.Equal(l, want) || !slices.Equal(seen, texts) {
			t.Fatalf("Way(%v, %d) to %v: %v, %d, asked of %q; want %v, %d, %q", c, most, goals, l, e, seen, want, err, texts)
		}
	})
}

// hold holds all calls of a chart against the words, with all bounds that make a difference.
func (c chart) hold(t *testing.T) {
	t.Helper()
	c.holdStates(t)
	n := len(c.saysOrder())
	for _, most := range []int{0, n - 1, n, n + 1} {
		c.holdMost(t, most)
		c.holdWay(t, most)
		for i := range c {
			c.holdWay(t, most, i)
		}
	}
}

// holdAll holds a chart against the words with other bounds and goals too.
func (c chart) holdAll(t *testing.T) {
	t.Helper()
	c.hold(t)
	most := []int{math.MinInt, -1, math.MaxInt - 1, math.MaxInt}
	for n := range len(c) + 2 {
		most = append(most, n)
	}
	for _, n := range most {
		c.holdMost(t, n)
		for i := range c {
			c.holdWay(t, n, i, (i+1)%len(c))
			c.holdWay(t, n, i, (i*3+2)%len(c), len(c)-1)
		}
	}
}

func (c chart) String() string {
	s := ""
	for _, n := range c {
		s += fmt.Sprintf("%q %v", n.text, n.picks)
		if n.end {
			s += fmt.Sprint(" end ", n.final.N, n.final.V[:3])
		}
		s += "; "
	}
	return s
}

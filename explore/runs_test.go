package explore_test

import (
	"fmt"
	"math"
	"testing"

	"weir/api"
	"weir/explore"
)

// stairs is a chart of n nodes in a row, each with two moves to the next one; the last one is an end.
func stairs(n int) chart {
	c := make(chart, n)
	for i := range c {
		c[i].text = fmt.Sprint(i)
		if i+1 < n {
			c[i].picks = []api.Pick{lead(i+1, 0), lead(i+1, 1)}
		}
	}
	c[n-1].end = true
	return c
}

func checkRuns(t *testing.T, what string, c chart, most int, want uint64, err api.Errno) {
	t.Helper()
	if n, e := explore.Runs(c.machine(), most); n != want || e != err {
		t.Errorf("Runs of %s, at most %d: %d, %d; want %d, %d", what, most, n, e, want, err)
	}
}

// 14.5: up to 2^64 - 1 ways, and one more.
func TestManyRuns(t *testing.T) {
	for n := 1; n <= 64; n++ {
		checkRuns(t, fmt.Sprint(n, " stairs"), stairs(n), n, 1<<(n-1), api.OK)
	}
	for _, n := range []int{65, 66, 128, 129, 300} {
		checkRuns(t, fmt.Sprint(n, " stairs"), stairs(n), n, 0, api.ErrCount)
		checkRuns(t, fmt.Sprint(n, " stairs"), stairs(n), n-1, 0, api.ErrLong)
	}
	c := stairs(64)
	for i := range c {
		c[i].end = true
	}
	checkRuns(t, "64 stairs, all ends", c, 64, math.MaxUint64, api.OK)
	c[0].picks = append(c[0].picks, lead(64, 0))
	c = append(c, node{text: "beside"})
	checkRuns(t, "these, and a stuck state", c, 65, math.MaxUint64, api.OK)
	c[64].end = true
	checkRuns(t, "these, and an end more", c, 65, 0, api.ErrCount)
	c[0].end = false
	checkRuns(t, "these, and an end less", c, 65, math.MaxUint64, api.OK)
	for i := range c {
		c[i].end = i == 63
	}
	c[63].picks = []api.Pick{lead(64, 0)}
	checkRuns(t, "64 stairs and a stuck state", c, 65, 1<<63, api.OK)
	c[64].end = true
	checkRuns(t, "two ends behind 64 stairs", c, 65, 0, api.ErrCount)
}

// 14.5: ways that lead to no end don't count, however many they are; a pick that stands twice is two moves.
func TestVainRuns(t *testing.T) {
	c := stairs(200)
	c[199].end = false
	checkRuns(t, "200 stairs without an end", c, 200, 0, api.OK)
	c = append(c, node{text: "end", end: true})
	c[0].picks = append(c[0].picks, lead(200, 0), lead(200, 0), lead(200, 7))
	checkRuns(t, "three ways beside 200 vain stairs", c, 201, 3, api.OK)
	c[150].picks = append(c[150].picks, lead(200, 0))
	checkRuns(t, "very many more of them", c, 201, 0, api.ErrCount)
	c[150].picks[2] = lead(-1, 0)
	c[40].picks = append(c[40].picks, lead(200, 0))
	checkRuns(t, "2^40 more of them", c, 201, 1<<40+3, api.OK)
}

// 14.5: who leads round has no number of ways, whether an end is come to from there or not; ErrLong goes ahead of that.
func TestRoundRuns(t *testing.T) {
	for _, back := range []struct{ from, to int }{{0, 0}, {9, 9}, {5, 5}, {9, 0}, {9, 8}, {5, 4}} {
		c := stairs(10)
		c[back.from].picks = append(c[back.from].picks, lead(back.to, 5))
		what := fmt.Sprint("10 stairs, and from ", back.from, " to ", back.to)
		checkRuns(t, what, c, 10, 0, api.ErrCount)
		checkRuns(t, what, c, 9, 0, api.ErrLong)
		c[9].end = false
		checkRuns(t, what+", without an end", c, 10, 0, api.ErrCount)
		c[back.from].picks[len(c[back.from].picks)-1] = lead(-1-back.to, 5)
		checkRuns(t, what+", which can't be done", c, 10, 0, api.OK)
	}
	c := append(stairs(10), node{text: "apart", picks: []api.Pick{lead(10, 0), lead(0, 0)}, end: true})
	checkRuns(t, "10 stairs, and apart from them a round", c, 10, 512, api.OK)
}

package explore_test

import (
	"fmt"
	"math"
	"slices"
	"strings"
	"testing"

	"weir/api"
)

// dice is a row of numbers that look unruly and are the same at every run.
func dice(seed uint64) func(n int) int {
	return func(n int) int {
		seed += 0x9e3779b97f4a7c15
		z := (seed ^ seed>>30) * 0xbf58476d1ce4e5b9
		z = (z ^ z>>27) * 0x94d049bb133111eb
		return int((z ^ z>>31) % uint64(n))
	}
}

func pick[T any](roll func(int) int, l []T) T { return l[roll(len(l))] }

// valued is the final state of some values.
func valued(l ...int64) api.Final {
	f := api.Final{N: len(l)}
	copy(f.V[:], l)
	return f
}

// node is a state of a chart: its text; what Picks answers; and what End does.
type node struct {
	text  string
	picks []api.Pick
	final api.Final
	end   bool
}

// chart is a machine written down. The first node is the start. A pick leads to the node whose number its Loc is; one with a Loc below 0 can't be done, though a text stands beside the false.
type chart []node

func (c chart) at(text string) node {
	return c[slices.IndexFunc(c, func(n node) bool { return n.text == text })]
}

// target is the number of the node to which a pick leads; -1: it can't be done.
func target(k api.Pick) int { return max(k.Loc, -1) }

func (c chart) machine() api.Machine {
	return api.Machine{
		Start: c[0].text,
		Picks: func(text string) []api.Pick { return slices.Clone(c.at(text).picks) },
		Step: func(text string, k api.Pick) (string, bool) {
			if !slices.Contains(c.at(text).picks, k) {
				panic("a step of a pick that is none")
			}
			if target(k) < 0 {
				return c[-k.Loc-1].text, false
			}
			return c[k.Loc].text, true
		},
		End: func(text string) (api.Final, bool) {
			n := c.at(text)
			return n.final, n.end
		},
	}
}

// lead is a pick that leads to a node; two with unlike numbers are unlike picks.
func lead(to, number int) api.Pick {
	return api.Pick{Thread: number, Kind: api.PStep, Loc: to}
}

// picture is a chart whose nodes are letters, from a on: "bc d" leads from a to b and c, from b to d; - is a pick that can't be done. The nodes of ends have their numbers as final states.
func picture(moves, ends string) chart {
	c := chart{}
	for i, row := range strings.Split(moves, " ") {
		n := node{text: string(rune('a' + i)), final: valued(int64(i)), end: strings.Contains(ends, string(rune('a'+i)))}
		for k, to := range strings.TrimPrefix(row, ".") {
			if to == '-' {
				n.picks = append(n.picks, lead(-1, k))
			} else {
				n.picks = append(n.picks, lead(int(to-'a'), k))
			}
		}
		c = append(c, n)
	}
	return c
}

// first is the machine of the chapter's examples.
func first() chart {
	c := picture("bc cd d .", "d")
	c[3].final = valued(7)
	return c
}

// someFinals is final states of which some are not right.
func someFinals() []api.Final {
	long, tail := api.Final{N: 48}, valued(1)
	long.V[47], tail.V[1] = 1, 1
	return []api.Final{valued(), valued(0), valued(1), valued(-1), valued(1, 2), valued(math.MinInt64), long, tail, {N: 49}, {N: -1}}
}

// someChart is an unruly chart: picks that can't be done, that come twice, that lead round or nowhere, and nodes to which none leads.
func someChart(roll func(int) int, most int) chart {
	c := make(chart, 1+roll(most))
	refused, forward := roll(3), roll(3) > 0
	for i := range c {
		c[i] = node{text: fmt.Sprint("state ", i), final: pick(roll, someFinals()), end: roll(3) == 0}
		if i == len(c)/2 {
			c[i].text = ""
		}
		for range roll(4) {
			k := lead(roll(len(c)), roll(2))
			if forward { // where moves lead anywhere, they nearly always lead round
				k.Loc = i + 1 + roll(3)
			}
			if k.Loc >= len(c) || refused > 0 && roll(4) == 0 {
				k.Loc = -1 - roll(len(c))
			}
			c[i].picks = append(c[i].picks, k)
		}
	}
	return c
}

// watch is what a machine was asked.
type watch struct {
	picks, ends map[string]int
	steps       map[ask]int
	lists       [][]api.Pick // what Picks has answered, with spare room
	asWere      []string
}

type ask struct {
	text string
	k    api.Pick
}

// watched is a machine that is watched.
func watched(m api.Machine) (api.Machine, *watch) {
	w := &watch{map[string]int{}, map[string]int{}, map[ask]int{}, nil, nil}
	return api.Machine{
		Start: m.Start,
		Picks: func(text string) []api.Pick {
			w.picks[text]++
			l := spare(m.Picks(text))
			w.lists, w.asWere = append(w.lists, l), append(w.asWere, wholeOf(l))
			return l
		},
		Step: func(text string, k api.Pick) (string, bool) {
			w.steps[ask{text, k}]++
			return m.Step(text, k)
		},
		End: func(text string) (api.Final, bool) {
			w.ends[text]++
			return m.End(text)
		},
	}, w
}

// spare is a list with something in the room behind its end.
func spare(l []api.Pick) []api.Pick {
	return append(slices.Clone(l), lead(77, 77), lead(78, 78))[:len(l)]
}

// wholeOf is what a list holds, its spare room too.
func wholeOf(l []api.Pick) string { return fmt.Sprint(len(l), l[:cap(l)]) }

// hold holds what was asked in one call against 14.6; in says which states are reachable.
func (w *watch) hold(t *testing.T, m api.Machine, in func(string) bool) {
	t.Helper()
	for what, asked := range map[string]map[string]int{"Picks": w.picks, "End": w.ends} {
		for text, n := range asked {
			if n > 1 || !in(text) {
				t.Fatalf("%s was asked of %q %d times (reachable: %v)", what, text, n, in(text))
			}
		}
	}
	for a, n := range w.steps {
		members := 0
		for _, k := range m.Picks(a.text) {
			if k == a.k {
				members++
			}
		}
		if n > members || !in(a.text) {
			t.Fatalf("Step was asked of %q and %v %d times (reachable: %v)", a.text, a.k, n, in(a.text))
		}
	}
	for i, l := range w.lists {
		if is := wholeOf(l); is != w.asWere[i] {
			t.Fatalf("what Picks answered was %s; it is %s", w.asWere[i], is)
		}
	}
}

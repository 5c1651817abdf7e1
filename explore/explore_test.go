package explore_test

import (
	"fmt"
	"slices"
	"strconv"
	"strings"
	"testing"

	"weir/api"
	"weir/explore"
)

// walked is the states of a machine and their depths, as far as so many.
func walked(m api.Machine, most int) string {
	var l []string
	for text, depth := range explore.States(m) {
		l = append(l, fmt.Sprint(text, " ", depth))
		if len(l) == most {
			break
		}
	}
	return strings.Join(l, ", ")
}

func is(text string) func(string) bool { return func(s string) bool { return s == text } }

// The chapter's examples 1 to 3.
func TestExamples(t *testing.T) {
	m := first().machine()
	if s := walked(m, 9); s != "a 0, b 1, c 1, d 2" {
		t.Errorf("States: %s", s)
	}
	if l, tally, e := explore.Explore(m, 4); e != api.OK || !slices.Equal(l, []api.Final{valued(7)}) || tally != (api.Tally{States: 4, Moves: 5, Ends: 1}) {
		t.Errorf("Explore, at most 4: %v, %v, %d", l, tally, e)
	}
	if l, tally, e := explore.Explore(m, 3); e != api.ErrLong || len(l) != 0 || tally != (api.Tally{}) {
		t.Errorf("Explore, at most 3: %v, %v, %d", l, tally, e)
	}
	if l, e := explore.Way(m, 4, is("d")); e != api.OK || !slices.Equal(l, []api.Pick{lead(1, 0), lead(3, 1)}) {
		t.Errorf("Way to d: %v, %d", l, e)
	}
	if l, e := explore.Way(m, 4, is("z")); e != api.ErrNone || len(l) != 0 {
		t.Errorf("Way to nothing: %v, %d", l, e)
	}
	if l, e := explore.Way(m, 2, is("z")); e != api.ErrLong || len(l) != 0 {
		t.Errorf("Way to nothing, at most 2: %v, %d", l, e)
	}
	if l, e := explore.Ways(m, 4); e != api.OK || !sameWays(l, []api.Way{{Final: valued(7), Picks: []api.Pick{lead(1, 0), lead(3, 1)}}}) {
		t.Errorf("Ways: %v, %d", l, e)
	}
	if n, e := explore.Runs(m, 4); e != api.OK || n != 3 {
		t.Errorf("Runs: %d, %d", n, e)
	}
	if n, e := explore.Runs(picture("bc cd d a", "d").machine(), 4); e != api.ErrCount || n != 0 {
		t.Errorf("Runs with a move from d to a: %d, %d", n, e)
	}
}

// 14.1 to 14.6: charts that are written out.
func TestPictures(t *testing.T) {
	for _, c := range []struct{ moves, ends string }{
		{".", ""},                   // stuck at once
		{".", "a"},                  // an end at once
		{"a", ""},                   // leads to itself alone, and is no end and not stuck
		{"a", "a"},                  // the same, and an end
		{"-", ""},                   // a pick that can't be done is no move: stuck
		{"-", "a"},                  // an end is not stuck
		{"bb .", "b"},               // two moves to the same state are two
		{"b-c . c", "bc"},           // between two moves one that can't be done
		{"bc d d .", "abcd"},        // ends on the way
		{"b c a", ""},               // round, without an end
		{"bc b .", "c"},             // round where no end is come to
		{"b c d . f e", "def"},      // states to which no way leads lead round
		{"dcb . . .", "bcd"},        // the order of moves, not that of names
		{"bc e d f . .", "ef"},      // breadth first, not depth first
		{"cb d e f f .", "f"},       // the first shortest way goes by c
		{"b cd d bd .", "d"},        // back to a lesser depth
		{"bcd e e e f .", "f"},      // one of three
		{"b-b- --cc ---- d", "bcd"}, // picks that can't be done everywhere
	} {
		picture(c.moves, c.ends).holdAll(t)
	}
	first().holdAll(t)
}

// 14.2, 14.4: the same final state at several ends, and final states that are not right: they are ends, but in no set.
func TestFinals(t *testing.T) {
	c := picture("bcde fg . . . . .", "bcdefg")
	for i, f := range someFinals() {
		for _, g := range someFinals()[i:] {
			for at := range c {
				c[at].final = f
			}
			c[3].final, c[6].final = g, g
			c.holdAll(t)
		}
	}
	c = picture("bcd . . e .", "abcde")
	for i, f := range []api.Final{{N: 49}, valued(2), valued(1), valued(2), {N: -1}} {
		c[i].final = f
	}
	l, tally, e := explore.Explore(c.machine(), 5)
	if e != api.OK || !slices.Equal(l, []api.Final{valued(1), valued(2)}) || tally != (api.Tally{States: 5, Moves: 4, Ends: 5}) {
		t.Errorf("Explore: %v, %v, %d", l, tally, e)
	}
	ways, e := explore.Ways(c.machine(), 5)
	if want := []api.Way{{Final: valued(1), Picks: []api.Pick{lead(2, 1)}}, {Final: valued(2), Picks: []api.Pick{lead(1, 0)}}}; e != api.OK || !sameWays(ways, want) {
		t.Errorf("Ways: %v, %d", ways, e)
	}
}

// rows is all lists of at most two moves to n nodes.
func rows(n int) [][]api.Pick {
	l := [][]api.Pick{nil}
	for a := range n {
		l = append(l, []api.Pick{lead(a, 0)})
		for b := range n {
			l = append(l, []api.Pick{lead(a, 0), lead(b, 1)})
		}
	}
	return l
}

// 14.1 to 14.6: all charts of three nodes with at most two moves each.
func TestSmallCharts(t *testing.T) {
	all := rows(3)
	for _, a := range all {
		for _, b := range all {
			for _, d := range all {
				for ends := range 8 {
					chart{
						{"a", a, valued(0), ends&1 > 0},
						{"", b, valued(1), ends&2 > 0},
						{"aa", d, valued(0), ends&4 > 0},
					}.hold(t)
				}
			}
		}
	}
}

// 14.1 to 14.6: unruly charts.
func TestSomeCharts(t *testing.T) {
	roll := dice(14)
	round, straight := 0, 0
	for range 3000 {
		c := someChart(roll, 9)
		c.hold(t)
		if c.leadsRound() {
			round++
		} else if n, _ := c.saysRuns(); n > 1 {
			straight++
		}
	}
	for range 100 {
		someChart(roll, 7).holdAll(t)
	}
	if round < 300 || straight < 300 {
		t.Errorf("%d charts lead round, %d others have more than one run", round, straight)
	}
}

// 14.1: at each place at which the walk is left, Picks was asked of no state behind, and nothing is asked afterwards; then it is gone through again from the start.
func TestStatesAsAsked(t *testing.T) {
	roll := dice(141)
	charts := []chart{first(), picture("bcd e e e f .", "f")}
	for range 300 {
		charts = append(charts, someChart(roll, 9))
	}
	for _, c := range charts {
		order := c.saysOrder()
		for left := range order {
			m, w := watched(c.machine())
			seq := explore.States(m)
			at := 0
			for range seq {
				for _, i := range order[at+1:] {
					if w.picks[c[i].text] > 0 {
						t.Fatalf("%v: at the state %d Picks was asked of %q", c, at, c[i].text)
					}
				}
				if at == left {
					break
				}
				at++
			}
			if asked := len(w.picks); asked > left+1 {
				t.Fatalf("%v, left at %d: Picks was asked of %d states", c, left, asked)
			}
			again := 0
			for text := range seq {
				if text != c[order[again]].text {
					t.Fatalf("%v, left at %d, then again: %q at %d", c, left, text, again)
				}
				again++
			}
			if again != len(order) {
				t.Fatalf("%v, left at %d, then again: %d states", c, left, again)
			}
		}
	}
}

// 14.1: the walk within itself; the machine answers in the same memory each time.
func TestStatesWithin(t *testing.T) {
	roll := dice(142)
	for range 300 {
		c := someChart(roll, 6)
		m := c.machine()
		var room [8]api.Pick
		plain := m.Picks
		m.Picks = func(text string) []api.Pick { return room[:copy(room[:], plain(text))] }
		var want, got []string
		for _, i := range c.saysOrder() {
			for _, k := range c.saysOrder() {
				want = append(want, c[i].text+" "+c[k].text)
			}
		}
		seq := explore.States(m)
		for a := range seq {
			for b := range seq {
				got = append(got, a+" "+b)
			}
		}
		if !slices.Equal(got, want) {
			t.Fatalf("States of %v within itself: %q; want %q", c, got, want)
		}
		for i := range c {
			l, e := explore.Way(m, 9, func(text string) bool {
				m.Picks(c[len(c)-1].text)
				return text == c[i].text
			})
			if reachable := slices.Contains(c.saysOrder(), i); reachable != (e == api.OK) || reachable && !slices.Equal(l, c.saysWay(i)) {
				t.Fatalf("Way(%v) to %d: %v, %d", c, i, l, e)
			}
		}
	}
}

// doubling is a machine without end: n leads to 2n and 2n + 1; those from 8 on are ends.
func doubling() api.Machine {
	number := func(text string) int {
		n, err := strconv.Atoi(text)
		if err != nil {
			panic(err)
		}
		return n
	}
	return api.Machine{
		Start: "1",
		Picks: func(string) []api.Pick { return []api.Pick{lead(0, 0), lead(1, 0)} },
		Step:  func(text string, k api.Pick) (string, bool) { return fmt.Sprint(number(text)*2 + k.Loc), true },
		End:   func(text string) (api.Final, bool) { return valued(int64(number(text))), number(text) >= 8 },
	}
}

// 14.1 to 14.5: a machine without end is gone through as far as it is asked.
func TestEndless(t *testing.T) {
	m := doubling()
	if s := walked(m, 7); s != "1 0, 2 1, 3 1, 4 2, 5 2, 6 2, 7 2" {
		t.Errorf("States: %s", s)
	}
	for _, most := range []int{-1, 0, 1, 2, 100, 5000} {
		if l, tally, e := explore.Explore(m, most); e != api.ErrLong || len(l) != 0 || tally != (api.Tally{}) {
			t.Errorf("Explore, at most %d: %d, %v, %d", most, len(l), tally, e)
		}
		if l, e := explore.Ways(m, most); e != api.ErrLong || len(l) != 0 {
			t.Errorf("Ways, at most %d: %d, %d", most, len(l), e)
		}
		if n, e := explore.Runs(m, most); e != api.ErrLong || n != 0 {
			t.Errorf("Runs, at most %d: %d, %d", most, n, e)
		}
		if l, e := explore.Way(m, most, is("")); e != api.ErrLong || len(l) != 0 {
			t.Errorf("Way to nothing, at most %d: %v, %d", most, l, e)
		}
	}
	want := []api.Pick{lead(0, 0), lead(1, 0), lead(1, 0)}
	if l, e := explore.Way(m, 11, is("11")); e != api.OK || !slices.Equal(l, want) {
		t.Errorf("Way to 11, at most 11: %v, %d", l, e)
	}
	if l, e := explore.Way(m, 10, is("11")); e != api.ErrLong || len(l) != 0 {
		t.Errorf("Way to 11, at most 10: %v, %d", l, e)
	}
}

// 14.1 to 14.5: very many states in a row.
func TestLongChart(t *testing.T) {
	const n = 200000
	m := api.Machine{
		Start: strings.Repeat("x", 3),
		Picks: func(string) []api.Pick { return []api.Pick{lead(1, 0), lead(0, 0), lead(-1, 0)} },
		Step: func(text string, k api.Pick) (string, bool) {
			at, _ := strconv.Atoi(strings.Trim(text, "x"))
			return fmt.Sprint("x", at+1), k.Loc == 1 && at < n
		},
		End: func(text string) (api.Final, bool) { return valued(1), text == fmt.Sprint("x", n) },
	}
	if l, tally, e := explore.Explore(m, n+1); e != api.OK || len(l) != 1 || tally != (api.Tally{States: n + 1, Moves: n, Ends: 1}) {
		t.Errorf("Explore: %d, %v, %d", len(l), tally, e)
	}
	if l, e := explore.Ways(m, n+1); e != api.OK || len(l) != 1 || len(l[0].Picks) != n {
		t.Errorf("Ways: %d, %d", len(l), e)
	}
	if r, e := explore.Runs(m, n+1); e != api.OK || r != 1 {
		t.Errorf("Runs: %d, %d", r, e)
	}
	if l, e := explore.Way(m, n+1, is(fmt.Sprint("x", n))); e != api.OK || len(l) != n {
		t.Errorf("Way: %d, %d", len(l), e)
	}
	if _, _, e := explore.Explore(m, n); e != api.ErrLong {
		t.Errorf("Explore, at most %d: %d", n, e)
	}
}

// 14.6, R4: answered lists share no memory, with one another or with later answers; what is written into them is seen nowhere.
func TestMemory(t *testing.T) {
	roll := dice(146)
	for range 300 {
		c := someChart(roll, 9)
		rows := c.machine()
		rows.Picks = func(text string) []api.Pick { return c.at(text).picks } // the chart's own memory
		finals, ways := c.saysFinals(), c.saysWays()
		l, _, _ := explore.Explore(rows, 9)
		for i := range l[:cap(l)] {
			l[:cap(l)][i] = valued(77)
		}
		for i := range c {
			way, _ := explore.Way(rows, 9, is(c[i].text))
			for i := range way[:cap(way)] {
				way[:cap(way)][i] = lead(77, 77)
			}
		}
		w, _ := explore.Ways(rows, 9)
		for i := range w {
			w[i].Picks = append(w[i].Picks, lead(77, 77))[:len(w[i].Picks)]
		}
		if !sameWays(w, ways) {
			t.Fatalf("Ways(%v) share memory: %v; want %v", c, w, ways)
		}
		for _, x := range w {
			for i := range x.Picks[:cap(x.Picks)] {
				x.Picks[:cap(x.Picks)][i] = lead(77, 77)
			}
		}
		l, _, e := explore.Explore(rows, 9)
		if w, _ := explore.Ways(rows, 9); e != api.OK || !slices.Equal(l, finals) || !sameWays(w, ways) {
			t.Fatalf("%v: %v, %v; want %v, %v", c, l, w, finals, ways)
		}
	}
}

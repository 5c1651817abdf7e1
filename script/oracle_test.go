package script_test

import (
	"fmt"
	"regexp"
	"slices"
	"strconv"
	"strings"

	"weir/api"
)

// dice is a row of numbers that look unruly and are the same at every run.
func dice(seed uint64) func(n int) int {
	return func(n int) int {
		seed += 0x9e3779b97f4a7c15
		z := (seed ^ seed>>30) * 0xbf58476d1ce4e5b9
		z = (z ^ z>>27) * 0x94d049bb133111eb
		return int((z ^ z>>31) % uint64(n))
	}
}

func pick[T any](roll func(int) int, l []T) T { return l[roll(len(l))] }

// valued is the final state of some values.
func valued(l ...int64) api.Final {
	f := api.Final{N: len(l)}
	copy(f.V[:], l)
	return f
}

func st(thread int) api.Pick { return api.Pick{Thread: thread, Kind: api.PStep} }

func fl(thread, loc int) api.Pick { return api.Pick{Thread: thread, Kind: api.PFlush, Loc: loc} }

var aPick = regexp.MustCompile(`^(0|[1-9][0-9]{0,3}):(?:(s)|f|f:([1-9][0-9]{0,3}))$`)

// saysPick is the pick whose text a word is, by the chapter's words.
func saysPick(w string) (api.Pick, bool) {
	m := aPick.FindStringSubmatch(w)
	if m == nil {
		return api.Pick{}, false
	}
	k := api.Pick{Kind: api.PFlush}
	k.Thread, _ = strconv.Atoi(m[1])
	k.Loc, _ = strconv.Atoi(m[3]) // 0, where none stands
	if m[2] != "" {
		k.Kind = api.PStep
	}
	return k, true
}

// saysText is the text of a pick, by the chapter's words.
func saysText(k api.Pick) (string, bool) {
	within := func(n int) bool { return 0 <= n && n <= 9999 }
	switch {
	case !within(k.Thread) || !within(k.Loc):
		return "", false
	case k.Kind == api.PStep && k.Loc == 0:
		return fmt.Sprintf("%d:s", k.Thread), true
	case k.Kind == api.PFlush && k.Loc == 0:
		return fmt.Sprintf("%d:f", k.Thread), true
	case k.Kind == api.PFlush:
		return fmt.Sprintf("%d:f:%d", k.Thread, k.Loc), true
	}
	return "", false
}

// saysWords is the words of a text.
func saysWords(s string) []string {
	for _, blank := range []string{"\t", "\n", "\r"} {
		s = strings.ReplaceAll(s, blank, " ")
	}
	return slices.DeleteFunc(strings.Split(s, " "), func(w string) bool { return w == "" })
}

// saysParse is the script of a text, or the place of its first wrong word (line 0: there is none).
func saysParse(s string) ([]api.Pick, int, int) {
	var l []api.Pick
	for i, line := range strings.Split(s, "\n") {
		for at := 0; ; {
			for at < len(line) && strings.Contains(" \t\r", line[at:at+1]) {
				at++
			}
			if at == len(line) {
				break
			}
			w := saysWords(line[at:])[0]
			k, ok := saysPick(w)
			if !ok {
				return nil, i + 1, at + 1
			}
			l = append(l, k)
			at += len(w)
		}
	}
	return l, 0, 0
}

// saysStraight is Straight of picks that are all taken, word by word: one round after another is left out, and what is left is replayed anew.
func saysStraight(m api.Machine, picks []api.Pick) []api.Pick {
	picks = slices.Clone(picks)
again:
	for {
		states := []string{m.Start}
		for _, k := range picks {
			next, ok := m.Step(states[len(states)-1], k)
			if !ok {
				panic("a pick that is not taken")
			}
			states = append(states, next)
		}
		for i := range states {
			for k := len(states) - 1; k > i; k-- {
				if states[k] == states[i] {
					picks = slices.Delete(picks, i, k)
					continue again
				}
			}
		}
		return picks
	}
}

// saysFinish is Finish, one pick after another; the machine has all its functions.
func saysFinish(m api.Machine, s string, most int) ([]api.Pick, string) {
	_, over := m.End(s)
	l := m.Picks(s)
	if over || most < 1 || len(l) == 0 {
		return nil, s
	}
	next, ok := m.Step(s, l[0])
	if !ok {
		return nil, s
	}
	rest, last := saysFinish(m, next, most-1)
	return append([]api.Pick{l[0]}, rest...), last
}

// node is a state of a chart: its text; what each pick leads to (a number below 0: it can't be done); what Picks and End answer.
type node struct {
	text  string
	moves map[api.Pick]int
	picks []api.Pick
	final api.Final
	end   bool
}

// chart is a machine written down; the first node is the start.
type chart []node

func (c chart) at(text string) node {
	return c[slices.IndexFunc(c, func(n node) bool { return n.text == text })]
}

// machine is the machine of a chart. Beside a false of Step stands a state's text, and beside one of End a final state.
func (c chart) machine() api.Machine {
	return api.Machine{
		Start: c[0].text,
		Picks: func(text string) []api.Pick { return slices.Clone(c.at(text).picks) },
		Step: func(text string, k api.Pick) (string, bool) {
			to, ok := c.at(text).moves[k]
			if !ok || to < 0 {
				return c[len(c)-1].text, false
			}
			return c[to].text, true
		},
		End: func(text string) (api.Final, bool) {
			n := c.at(text)
			return n.final, n.end
		},
	}
}

// someKeys is the picks with which charts are played; some have no text.
func someKeys() []api.Pick {
	return []api.Pick{st(0), st(1), fl(0, 0), fl(0, 1), {Thread: -1, Kind: 7, Loc: -2}, {}}
}

// someChart is an unruly chart: what is picked leads on, round, to the same state or nowhere.
func someChart(roll func(int) int, most int) chart {
	c := make(chart, 1+roll(most))
	refused, ends := 1+roll(4), 1+roll(6)
	for i := range c {
		c[i] = node{text: fmt.Sprint("state ", i), moves: map[api.Pick]int{}, final: valued(int64(i)), end: roll(ends) == 0}
		if i == len(c)/2 {
			c[i].text = ""
		}
		for _, k := range someKeys() {
			if roll(refused) > 0 || roll(2) == 0 {
				c[i].moves[k] = roll(len(c))
			} else {
				c[i].moves[k] = -1
			}
		}
		for range roll(4) {
			c[i].picks = append(c[i].picks, pick(roll, someKeys()))
		}
	}
	return c
}

// someScript is an unruly script for charts.
func someScript(roll func(int) int, longest int) []api.Pick {
	var l []api.Pick
	for range roll(longest + 1) {
		l = append(l, pick(roll, append(someKeys(), st(9))))
	}
	return l
}

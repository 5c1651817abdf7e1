package event_test

import (
	"fmt"
	"math"
	"strings"
	"testing"

	"weir/api"
	"weir/event"
	"weir/word"
)

// 17.5: texts written out.
func TestText(t *testing.T) {
	p := api.Prog{Locs: []string{"x", "long.name+1", ""}}
	for _, c := range []struct {
		e    api.Event
		want string
	}{
		{api.Event{Kind: api.EInit, Thread: -1}, "i:x"},
		{api.Event{Kind: api.EInit, Thread: -1, Loc: 1}, "i:long.name+1"},
		{api.Event{Kind: api.EInit, Thread: 2, Index: 3, Loc: 0, Locked: true}, "i:x*"},
		{api.Event{Kind: api.EInit, Thread: -1, Loc: 3}, "i:?"},
		{api.Event{Kind: api.EInit, Thread: -1, Loc: -1, Locked: true}, "i:?*"},
		{api.Event{Kind: api.ERead}, "0:0:Rx"},
		{api.Event{Kind: api.ERead, Thread: 3, Index: 12, Loc: 1}, "3:12:Rlong.name+1"},
		{api.Event{Kind: api.ERead, Thread: 3, Index: 12, Locked: true}, "3:12:Rx*"},
		{api.Event{Kind: api.EWrite, Thread: 1, Index: 63}, "1:63:Wx"},
		{api.Event{Kind: api.EWrite, Thread: 1, Index: 9, Locked: true}, "1:9:Wx*"},
		{api.Event{Kind: api.EWrite, Loc: 3}, "0:0:W?"},
		{api.Event{Kind: api.ERead, Loc: -1, Locked: true}, "0:0:R?*"},
		{api.Event{Kind: api.ERead, Loc: math.MaxInt}, "0:0:R?"},
		{api.Event{Kind: api.EWrite, Loc: math.MinInt}, "0:0:W?"},
		{api.Event{Kind: api.EFence, Thread: 2, Index: 1, Loc: -1}, "2:1:F"},
		{api.Event{Kind: api.EFence, Thread: 2, Index: 1, Loc: 0}, "2:1:F"},
		{api.Event{Kind: api.EFence, Thread: 2, Index: 1, Loc: -1, Locked: true}, "2:1:F*"},
		{api.Event{}, "0:0:?"},
		{api.Event{Kind: 5, Thread: 1, Index: 2, Loc: 1}, "1:2:?"},
		{api.Event{Kind: -1, Locked: true}, "0:0:?*"},
		{api.Event{Kind: api.EWrite, Thread: -1}, "-1:0:Wx"},
		{api.Event{Kind: math.MinInt, Thread: math.MinInt, Index: math.MaxInt}, "-9223372036854775808:9223372036854775807:?"},
	} {
		if s := event.Text(p, c.e); s != c.want {
			t.Errorf("Text(%v): %q; want %q", c.e, s, c.want)
		}
	}
	if s := event.Text(api.Prog{}, api.Event{Kind: api.ERead}); s != "0:0:R?" {
		t.Errorf("Text of no locations: %q", s)
	}
}

// textOf is an event's text, in the chapter's words.
func textOf(p api.Prog, e api.Event) string {
	loc, star := "?", ""
	for i, s := range p.Locs {
		if i == e.Loc {
			loc = s
		}
	}
	if e.Locked {
		star = "*"
	}
	where := fmt.Sprintf("%d:%d:", e.Thread, e.Index)
	return map[int]string{1: "i:" + loc, 2: where + "W" + loc, 3: where + "R" + loc, 4: where + "F"}[e.Kind] +
		map[bool]string{true: where + "?"}[e.Kind < 1 || e.Kind > 4] + star
}

// between is a relation without the pairs between which an event stands.
func between(n int, is func(a, b int) bool) func(a, b int) bool {
	return func(a, b int) bool {
		for c := range n {
			if is(a, c) && is(c, b) {
				return false
			}
		}
		return is(a, b)
	}
}

// dotOf is an execution's graph, in the chapter's words.
func dotOf(p api.Prog, x api.Exec) string {
	w := wordsOf(x)
	lines := []string{"digraph weir {"}
	for i, e := range x.Events[:w.n] {
		value := ""
		if e.Kind >= 1 && e.Kind <= 3 && i < len(x.Values) {
			value = "=" + word.Text(x.Values[i])
		}
		lines = append(lines, fmt.Sprintf(`e%d [label="%s%s"]`, i, textOf(p, e), value))
	}
	for _, c := range []struct {
		name string
		is   func(a, b int) bool
	}{{"po", between(w.n, w.po)}, {"rf", w.rf}, {"co", between(w.n, w.co)}, {"fr", w.fr}} {
		for _, k := range such(w.n, c.is) {
			lines = append(lines, fmt.Sprintf(`e%d -> e%d [label="%s"]`, k.A, k.B, c.name))
		}
	}
	return strings.Join(append(lines, "}", ""), "\n")
}

// 17.5, 17.7: of unruly events and executions, of all lengths.
func TestTexts(t *testing.T) {
	roll := dice(177)
	progs := append(someProgs(t, roll, 5), api.Prog{}, api.Prog{Locs: []string{"", "\"\n", "?", "x\xff"}})
	for _, x := range someExecs(roll, 4) {
		p := pick(roll, progs)
		for _, e := range x.Events[:min(len(x.Events), 100)] {
			if s := event.Text(p, e); s != textOf(p, e) {
				t.Fatalf("Text(%q, %v): %q; want %q", p.Locs, e, s, textOf(p, e))
			}
		}
		if s, want := event.Dot(p, x), dotOf(p, x); s != want {
			t.Fatalf("Dot(%q, %.500s):\n%s\nwant\n%s", p.Locs, fmt.Sprint(x), s, want)
		}
	}
}

// 17.7: graphs written out.
func TestDot(t *testing.T) {
	p := of(t, "x=-7; y=0", "MOV [x],$1; MFENCE; LOCK XADD [x],EAX", "MOV EAX,[y]")
	l, _ := event.List(p, 0)
	for _, c := range []struct {
		x    api.Exec
		want string
	}{
		{api.Exec{}, ""},
		{api.Exec{Events: make([]api.Event, 65), Values: []int64{1}, From: []int{0}, Order: [][]int{{0, 1}}}, ""},
		{api.Exec{From: []int{0, 0}, Order: [][]int{{0, 1}}, Values: []int64{3}}, ""},
		{api.Exec{Events: l[:1], Values: []int64{0}}, "e0 [label=\"i:x=0\"]\n"},
		{api.Exec{Events: l[:1]}, "e0 [label=\"i:x\"]\n"},
		// No value of fences and of kinds that are none.
		{api.Exec{Events: []api.Event{{Kind: api.EFence}, {Kind: 9}, l[0]}, Values: []int64{1, 2, math.MinInt64}},
			"e0 [label=\"0:0:F\"]\ne1 [label=\"0:0:?\"]\ne2 [label=\"i:x=-9223372036854775808\"]\ne0 -> e1 [label=\"po\"]\n"},
		{api.Exec{Events: l, Values: []int64{-7, 0, 1, 0, 1, 4}, From: []int{-1, -1, -1, -1, 2, -1, 1}, Order: [][]int{{0, 2, 5}, {1}}},
			`e0 [label="i:x=-7"]
e1 [label="i:y=0"]
e2 [label="0:0:Wx=1"]
e3 [label="0:1:F"]
e4 [label="0:2:Rx*=1"]
e5 [label="0:2:Wx*=4"]
e6 [label="1:0:Ry"]
e2 -> e3 [label="po"]
e3 -> e4 [label="po"]
e4 -> e5 [label="po"]
e1 -> e6 [label="rf"]
e2 -> e4 [label="rf"]
e0 -> e2 [label="co"]
e2 -> e5 [label="co"]
e4 -> e5 [label="fr"]
`},
		// An order that goes round has pairs between which something stands, itself perhaps.
		{api.Exec{Events: l[:2], Order: [][]int{{0, 1, 0}}}, "e0 [label=\"i:x\"]\ne1 [label=\"i:y\"]\n"},
		{api.Exec{Events: l[:2], Order: [][]int{{0, 1}, {1, 0}}}, "e0 [label=\"i:x\"]\ne1 [label=\"i:y\"]\ne0 -> e1 [label=\"co\"]\ne1 -> e0 [label=\"co\"]\n"},
		// Two steps, but no pair for them: all stay.
		{api.Exec{Events: append(l[:2:2], l[6]), Order: [][]int{{0, 1}, {1, 2}}}, "e0 [label=\"i:x\"]\ne1 [label=\"i:y\"]\ne2 [label=\"1:0:Ry\"]\ne0 -> e1 [label=\"co\"]\ne1 -> e2 [label=\"co\"]\n"},
	} {
		if s := event.Dot(p, c.x); s != "digraph weir {\n"+c.want+"}\n" {
			t.Errorf("Dot(%v):\n%s\nwant\n%s", c.x, s, c.want)
		}
	}
}

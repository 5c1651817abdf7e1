package event_test

import (
	"fmt"
	"reflect"
	"slices"
	"testing"

	"weir/api"
	"weir/event"
)

// pairsOf is over how many numbers a relation is, and its pairs.
func pairsOf(r api.Rel) (int, []api.Edge) {
	var l []api.Edge
	for a := range 64 {
		for b := range 64 {
			if r.Rows[a]&(1<<b) != 0 {
				l = append(l, api.Edge{A: a, B: b})
			}
		}
	}
	return r.N, l
}

// such is the pairs of n numbers of which something is so.
func such(n int, is func(a, b int) bool) []api.Edge {
	var l []api.Edge
	for a := range n {
		for b := range n {
			if is(a, b) {
				l = append(l, api.Edge{A: a, B: b})
			}
		}
	}
	return l
}

// holdRel holds a relation against what its pairs are; it answers how many there are.
func holdRel(t *testing.T, what string, r api.Rel, n int, is func(a, b int) bool) int {
	t.Helper()
	want := such(n, is)
	if over, got := pairsOf(r); over != n || !slices.Equal(got, want) {
		t.Fatalf("%.600s: over %d, %.300s; want over %d, %.300s", what, over, fmt.Sprint(got), n, fmt.Sprint(want))
	}
	return len(want)
}

func holdSet(t *testing.T, what string, s api.Set, n int, is func(a int) bool) {
	t.Helper()
	var want api.Set
	for a := range n {
		if is(a) {
			want += 1 << a
		}
	}
	if s != want {
		t.Fatalf("%.600s: %b; want %b", what, s, want)
	}
}

// holdEvents holds the calls of a list of events against the chapter's words.
func holdEvents(t *testing.T, l []api.Event, count map[string]int) {
	t.Helper()
	what, n := fmt.Sprintf("%.500s", fmt.Sprint(l)), len(l)
	if n > 64 {
		n = 0
	}
	isWrite := func(a int) bool { return l[a].Kind == 1 || l[a].Kind == 2 }
	isMemory := func(a int) bool { return isWrite(a) || l[a].Kind == 3 }
	together := func(a, b int) bool { return l[a].Thread == l[b].Thread && l[a].Thread != -1 }
	kinds := []int{1, 2, 3, 4, 0, 5, -1, 64}
	if n > 0 {
		kinds = append(kinds, l[0].Kind, l[n-1].Kind)
	}
	for _, k := range kinds {
		holdSet(t, "Of "+what, event.Of(l, k), n, func(a int) bool { return l[a].Kind == k })
	}
	holdSet(t, "Memory "+what, event.Memory(l), n, isMemory)
	holdSet(t, "Locked "+what, event.Locked(l), n, func(a int) bool { return l[a].Locked })
	count["Po"] += holdRel(t, "Po "+what, event.Po(l), n, func(a, b int) bool { return a < b && together(a, b) })
	count["Loc"] += holdRel(t, "Loc "+what, event.Loc(l), n, func(a, b int) bool {
		return isMemory(a) && isMemory(b) && l[a].Loc == l[b].Loc
	})
	count["Int"] += holdRel(t, "Int "+what, event.Int(l), n, together)
	count["Ext"] += holdRel(t, "Ext "+what, event.Ext(l), n, func(a, b int) bool { return !together(a, b) })
	count["Rmw"] += holdRel(t, "Rmw "+what, event.Rmw(l), n, func(a, b int) bool {
		return a < b && together(a, b) && l[a].Index == l[b].Index && l[a].Locked && l[b].Locked && l[a].Kind == 3 && isWrite(b)
	})
}

// ahead tells whether in one of some lists a stands ahead of b.
func ahead(lists [][]int, a, b int) bool {
	for _, l := range lists {
		first, last := slices.Index(l, a), -1
		for i, c := range l {
			if c == b {
				last = i
			}
		}
		if first >= 0 && first < last {
			return true
		}
	}
	return false
}

// words is the relations of an execution, in the chapter's words.
type words struct {
	x api.Exec
	n int
}

func wordsOf(x api.Exec) words {
	if len(x.Events) > 64 {
		return words{x, 0}
	}
	return words{x, len(x.Events)}
}

func (w words) rf(a, b int) bool { return b < len(w.x.From) && w.x.From[b] == a }

func (w words) co(a, b int) bool { return ahead(w.x.Order, a, b) }

func (w words) fr(a, b int) bool {
	for c := range w.n {
		if a != b && w.rf(c, a) && w.co(c, b) {
			return true
		}
	}
	return false
}

func (w words) po(a, b int) bool {
	l := w.x.Events
	return a < b && l[a].Thread == l[b].Thread && l[a].Thread != -1
}

// holdExec holds the calls of an execution against the chapter's words.
func holdExec(t *testing.T, x api.Exec, count map[string]int) {
	t.Helper()
	w, what := wordsOf(x), fmt.Sprintf("%d events, %.250s, %.250s", len(x.Events), fmt.Sprint(x.From), fmt.Sprint(x.Order))
	count["Rf"] += holdRel(t, "Rf "+what, event.Rf(x), w.n, w.rf)
	count["Co"] += holdRel(t, "Co "+what, event.Co(x), w.n, w.co)
	count["Fr"] += holdRel(t, "Fr "+what, event.Fr(x), w.n, w.fr)
}

// 17.2 to 17.4: unruly lists of events and unruly executions, of all lengths.
func TestAnything(t *testing.T) {
	count := map[string]int{}
	for _, x := range someExecs(dice(172), 30) {
		holdEvents(t, x.Events, count)
		holdExec(t, x, count)
	}
	for _, what := range []string{"Po", "Loc", "Int", "Ext", "Rmw", "Rf", "Co", "Fr"} {
		if count[what] < 500 {
			t.Errorf("%s has %d pairs in all", what, count[what])
		}
	}
}

// 17.2, 17.3: the events of programs.
func TestOfPrograms(t *testing.T) {
	roll, count := dice(173), map[string]int{}
	for _, p := range someProgs(t, roll, 200) {
		n, _ := event.Tries(p)
		for range 4 {
			l, _ := event.List(p, api.Set(roll(1<<62))&(1<<n-1))
			holdEvents(t, l, count)
		}
		l, _ := event.List(p, 0)
		holdEvents(t, l, count)
	}
	if count["Rmw"] < 500 {
		t.Errorf("Rmw has %d pairs in all", count["Rmw"])
	}
}

// over is the relation of pairs that are written one behind the other.
func over(n int, l ...int) api.Rel {
	r := api.Rel{N: n}
	for i := 0; i < len(l); i += 2 {
		r.Rows[l[i]] |= 1 << l[i+1]
	}
	return r
}

// The chapter's examples 1, 2 and 4.
func TestExamples(t *testing.T) {
	l, e := event.List(sb(t), 0)
	if got := eventTexts(sb(t), l); e != api.OK || got != "i:x i:y 0:0:Wx 0:1:Ry 1:0:Wy 1:1:Rx" {
		t.Fatalf("SB: %s, %d", got, e)
	}
	if r := event.Po(l); r != over(6, 2, 3, 4, 5) {
		t.Errorf("Po: %v", r)
	}
	if s := event.Of(l, api.EInit); s != 3 {
		t.Errorf("Of EInit: %b", s)
	}
	x := api.Exec{Events: l, From: []int{-1, -1, -1, 1, -1, 0}, Order: [][]int{{0, 2}, {1, 4}}}
	if event.Rf(x) != over(6, 1, 3, 0, 5) || event.Co(x) != over(6, 0, 2, 1, 4) || event.Fr(x) != over(6, 3, 4, 5, 2) {
		t.Errorf("of SB: %v, %v, %v", event.Rf(x), event.Co(x), event.Fr(x))
	}
	p := of(t, "", "LOCK CMPXCHG [x],EBX")
	l, _ = event.List(p, 0)
	if n, e := event.Tries(p); n != 1 || e != api.OK || eventTexts(p, l) != "i:x 0:0:Rx* 0:0:Wx*" || event.Rmw(l) != over(3, 1, 2) {
		t.Errorf("CMPXCHG: %d tries, %s, %v", n, eventTexts(p, l), event.Rmw(l))
	}
	l, _ = event.List(p, 1)
	if eventTexts(p, l) != "i:x 0:0:Rx*" || event.Rmw(l) != over(2) {
		t.Errorf("CMPXCHG that fails: %s, %v", eventTexts(p, l), event.Rmw(l))
	}
	if l, e := event.List(p, 2); len(l) != 0 || e != api.ErrRange {
		t.Errorf("List of one try, {1}: %v, %d", l, e)
	}
}

// 17.2, 17.3: what is easily taken otherwise, written out.
func TestEdges(t *testing.T) {
	read, write, first := api.Event{Kind: api.ERead, Locked: true}, api.Event{Kind: api.EWrite, Locked: true}, api.Event{Kind: api.EInit, Locked: true}
	at := func(e api.Event, thread, index, loc int) api.Event {
		e.Thread, e.Index, e.Loc = thread, index, loc
		return e
	}
	// An initial write that a thread does is a write too; what stands behind is not ahead.
	l := []api.Event{write, read, first, write, at(write, 0, 1, 0), at(write, 1, 0, 0), read}
	if r := event.Rmw(l); r != over(7, 1, 2, 1, 3) {
		t.Errorf("Rmw: %v", r)
	}
	// The location of Rmw's events is not asked for.
	if r := event.Rmw([]api.Event{at(read, 3, 2, 0), at(write, 3, 2, 1)}); r != over(2, 0, 1) {
		t.Errorf("Rmw of unlike locations: %v", r)
	}
	if r := event.Rmw([]api.Event{at(read, -1, 0, 0), at(write, -1, 0, 0)}); r != over(2) {
		t.Errorf("Rmw of no thread: %v", r)
	}
	// Any Thread but -1 is a thread; any Loc is a location, of memory events alone.
	l = []api.Event{at(read, -2, 0, -1), at(write, -2, 0, -1), at(write, -1, 0, -1), {Kind: api.EFence, Thread: -1, Loc: -1}}
	if event.Int(l) != over(4, 0, 0, 0, 1, 1, 0, 1, 1) || event.Po(l) != over(4, 0, 1) {
		t.Errorf("Int, Po: %v, %v", event.Int(l), event.Po(l))
	}
	if event.Loc(l) != over(4, 0, 0, 0, 1, 0, 2, 1, 0, 1, 1, 1, 2, 2, 0, 2, 1, 2, 2) {
		t.Errorf("Loc: %v", event.Loc(l))
	}
	if r := event.Ext(l[1:]); r != over(3, 0, 1, 0, 2, 1, 0, 1, 1, 1, 2, 2, 0, 2, 1, 2, 2) {
		t.Errorf("Ext: %v", r)
	}
	if event.Memory(l) != 7 || event.Locked(l) != 7 || event.Of(l, api.EFence) != 8 {
		t.Errorf("Memory, Locked, Of: %b, %b, %b", event.Memory(l), event.Locked(l), event.Of(l, api.EFence))
	}
}

// 17.4: what is easily taken otherwise, written out.
func TestExecEdges(t *testing.T) {
	l := make([]api.Event, 4)
	for _, c := range []struct {
		from       []int
		order      [][]int
		rf, co, fr api.Rel
	}{
		{nil, nil, over(4), over(4), over(4)},
		{[]int{-1, 4, -64, 64}, [][]int{{4, -1, 64, 0}}, over(4), over(4), over(4)},
		{[]int{0, 0, 3, 3, 0, 1}, nil, over(4, 0, 0, 0, 1, 3, 2, 3, 3), over(4), over(4)},
		{[]int{2}, nil, over(4, 2, 0), over(4), over(4)},
		// Numbers that are no places stand between, and do not count.
		{nil, [][]int{{0, 9, 1, -5, 2}}, over(4), over(4, 0, 1, 0, 2, 1, 2), over(4)},
		// Twice in a list: ahead of itself, and of what stands between it both ways.
		{nil, [][]int{{0, 0}}, over(4), over(4, 0, 0), over(4)},
		{nil, [][]int{{0, 1, 0}}, over(4), over(4, 0, 0, 0, 1, 1, 0), over(4)},
		// One pair by each list; lists are not joined.
		{nil, [][]int{{0, 1}, {1, 2}, {}, {1, 0}}, over(4), over(4, 0, 1, 1, 2, 1, 0), over(4)},
		// What reads may be in the order itself, but is not behind itself.
		{[]int{-1, 0}, [][]int{{0, 1, 2}}, over(4, 0, 1), over(4, 0, 1, 0, 2, 1, 2), over(4, 1, 2)},
		{[]int{0}, [][]int{{0, 0, 3}}, over(4, 0, 0), over(4, 0, 0, 0, 3), over(4, 0, 3)},
		{[]int{-1, -1, -1, 1}, [][]int{{0, 1, 2, 1}}, over(4, 1, 3), over(4, 0, 1, 0, 2, 1, 1, 1, 2, 2, 1), over(4, 3, 1, 3, 2)},
	} {
		x := api.Exec{Events: l, From: c.from, Order: c.order}
		if event.Rf(x) != c.rf || event.Co(x) != c.co || event.Fr(x) != c.fr {
			t.Errorf("%v, %v: %v, %v, %v; want %v, %v, %v", c.from, c.order, event.Rf(x), event.Co(x), event.Fr(x), c.rf, c.co, c.fr)
		}
	}
}

// 17.2 to 17.4: 64 events are known, 65 are none.
func TestManyEvents(t *testing.T) {
	for _, n := range []int{63, 64, 65, 66, 128} {
		l, from, order := make([]api.Event, n), make([]int, n), make([]int, n)
		for i := range l {
			l[i] = api.Event{Kind: api.EWrite, Locked: true}
			from[i], order[i] = n-1-i, i
		}
		x := api.Exec{Events: l, From: from, Order: [][]int{order}}
		count := map[string]int{}
		holdEvents(t, l, count)
		holdExec(t, x, count)
		if n > 64 && (event.Memory(l) != 0 || event.Po(l) != api.Rel{} || event.Ext(l) != api.Rel{} || event.Co(x) != api.Rel{}) {
			t.Errorf("%d events are taken for some", n)
		}
		if n <= 64 && (count["Po"] != n*(n-1)/2 || count["Int"] != n*n || count["Rf"] != n) {
			t.Errorf("of %d events: %v", n, count)
		}
	}
}

// R4: what is handed in stays as it is.
func TestMemoryOfExecs(t *testing.T) {
	for _, x := range someExecs(dice(174), 3) {
		if len(x.Events) > 200 {
			continue
		}
		x = wide(x)
		before := whole(reflect.ValueOf(x))
		l, count := x.Events, map[string]int{}
		holdEvents(t, l, count)
		holdExec(t, x, count)
		event.Dot(api.Prog{}, x)
		if after := whole(reflect.ValueOf(x)); after != before {
			t.Fatalf("%.300s has become %.300s", before, after)
		}
	}
}

package axiom_test

import (
	"slices"
	"strings"
	"testing"

	"weir/api"
	"weir/axiom"
	"weir/event"
)

// over is the relation of pairs that are written one behind the other.
func over(n int, l ...int) api.Rel {
	r := api.Rel{N: n}
	for i := 0; i < len(l); i += 2 {
		r.Rows[l[i]] |= 1 << l[i+1]
	}
	return r
}

// exec is the execution of a program whose tries do not fail.
func exec(p api.Prog, from []int, order ...[]int) api.Exec {
	l, _ := event.List(p, 0)
	return api.Exec{Events: l, From: from, Order: order}
}

// want is what the calls by a model answer of an execution.
type want struct {
	model int
	why   []api.Broken // none: order is the order
	order []int
	text  string
}

func check(t *testing.T, name string, p api.Prog, x api.Exec, c want) {
	t.Helper()
	l, e := axiom.Why(c.model, x)
	if e != api.OK || !same(l, c.why) {
		t.Errorf("%s: Why by %d: %v, %d; want %v", name, c.model, l, e, c.why)
	}
	if ok, e := axiom.Holds(c.model, x); e != api.OK || ok != (len(c.why) == 0) {
		t.Errorf("%s: Holds by %d: %v, %d", name, c.model, ok, e)
	}
	order, e := axiom.Order(c.model, x)
	if !slices.Equal(order, c.order) || len(c.why) == 0 && e != api.OK || len(c.why) != 0 && e != api.ErrNone {
		t.Errorf("%s: Order by %d: %v, %d; want %v", name, c.model, order, e, c.order)
	}
	if s, e := axiom.Explain(p, c.model, x); e != api.OK || s != c.text {
		t.Errorf("%s: Explain by %d: %q, %d; want %q", name, c.model, s, e, c.text)
	}
}

func global(round ...int) []api.Broken { return []api.Broken{{Axiom: api.AGlobal, Round: round}} }

func uniproc(round ...int) []api.Broken { return []api.Broken{{Axiom: api.AUniproc, Round: round}} }

func atomic(round ...int) []api.Broken { return []api.Broken{{Axiom: api.AAtomic, Round: round}} }

// The chapter's examples.
func TestExamples(t *testing.T) {
	x := exec(sb(t), []int{-1, -1, -1, 1, -1, 0}, []int{0, 2}, []int{1, 4})
	if r := axiom.Uniproc(x); r != over(6, 0, 2, 0, 5, 1, 3, 1, 4, 3, 4, 5, 2) {
		t.Errorf("Uniproc of SB: %v", r)
	}
	if r, e := axiom.Global(api.MSC, x); e != api.OK || r != over(6, 0, 2, 0, 5, 1, 3, 1, 4, 3, 4, 5, 2, 2, 3, 4, 5) {
		t.Errorf("Global of SB: %v, %d", r, e)
	}
	check(t, "SB", sb(t), x, want{api.MSC, global(2, 3, 4, 5), nil, "global: 0:0:Wx -po-> 0:1:Ry -fr-> 1:0:Wy -po-> 1:1:Rx -fr-> 0:0:Wx\n"})
	check(t, "SB", sb(t), x, want{api.MTSO, nil, []int{0, 1, 3, 4, 5, 2}, ""})
	check(t, "SB", sb(t), x, want{api.MPSO, nil, []int{0, 1, 3, 4, 5, 2}, ""})
	if a, b := axiom.Labels(x, 2, 3), axiom.Labels(x, 3, 4); !slices.Equal(a, []string{"po"}) || !slices.Equal(b, []string{"fre"}) {
		t.Errorf("Labels of SB: %q, %q", a, b)
	}

	p := of(t, "x=0; y=0", "MOV [x],$1; MFENCE; MOV EAX,[y]", "MOV [y],$1; MFENCE; MOV EAX,[x]")
	x = exec(p, []int{-1, -1, -1, -1, 1, -1, -1, 0}, []int{0, 2}, []int{1, 5})
	text := "global: 0:0:Wx -fence-> 0:2:Ry -fr-> 1:0:Wy -fence-> 1:2:Rx -fr-> 0:0:Wx\n"
	check(t, "SB with fences", p, x, want{api.MTSO, global(2, 4, 5, 7), nil, text})
	check(t, "SB with fences", p, x, want{api.MPSO, global(2, 4, 5, 7), nil, text})
	check(t, "SB with fences", p, x, want{api.MSC, global(2, 4, 5, 7), nil, strings.ReplaceAll(text, "fence", "po")})

	p = of(t, "x=0; y=0", "MOV [x],$1; MOV [y],$1", "MOV EAX,[y]; MOV EBX,[x]")
	x = exec(p, []int{-1, -1, -1, -1, 3, 0}, []int{0, 2}, []int{1, 3})
	text = "global: 0:0:Wx -po-> 0:1:Wy -rfe-> 1:0:Ry -po-> 1:1:Rx -fr-> 0:0:Wx\n"
	check(t, "MP", p, x, want{api.MTSO, global(2, 3, 4, 5), nil, text})
	check(t, "MP", p, x, want{api.MSC, global(2, 3, 4, 5), nil, strings.Replace(text, "rfe", "rf", 1)})
	check(t, "MP", p, x, want{api.MPSO, nil, []int{0, 1, 3, 4, 5, 2}, ""})

	p = of(t, "", "MOV [x],$1; MOV EAX,[x]")
	x = exec(p, []int{-1, -1, 0}, []int{0, 1})
	check(t, "a stale read", p, x, want{api.MTSO, uniproc(1, 2), nil, "uniproc: 0:0:Wx -po-> 0:1:Rx -fr-> 0:0:Wx\n"})
	check(t, "a stale read", p, x, want{api.MPSO, uniproc(1, 2), nil, "uniproc: 0:0:Wx -po-> 0:1:Rx -fr-> 0:0:Wx\n"})
	check(t, "a stale read", p, x, want{api.MSC, append(uniproc(1, 2), global(1, 2)...), nil,
		"uniproc: 0:0:Wx -po-> 0:1:Rx -fr-> 0:0:Wx\nglobal: 0:0:Wx -po-> 0:1:Rx -fr-> 0:0:Wx\n"})
}

// 19.1, 19.2, 19.6: what locked instructions do, and reading one's own write ahead of the others.
func TestLocks(t *testing.T) {
	// Locked instructions stand as fences do, between what is ahead and what is behind, too.
	p := of(t, "", "XCHG [x],EBX; MOV EAX,[y]", "XCHG [y],EBX; MOV EAX,[x]")
	x := exec(p, []int{-1, -1, 0, -1, 1, 1, -1, 0}, []int{0, 3}, []int{1, 6})
	text := "global: 0:0:Wx* -lock-> 0:1:Ry -fr-> 1:0:Wy* -lock-> 1:1:Rx -fr-> 0:0:Wx*\n"
	check(t, "SB with locks", p, x, want{api.MTSO, global(3, 4, 6, 7), nil, text})
	check(t, "SB with locks", p, x, want{api.MPSO, global(3, 4, 6, 7), nil, text})

	// A store ahead of a locked instruction is done when that one reads: also when it fails.
	p = of(t, "0:EAX=7; 1:EAX=7", "MOV [x],$1; LOCK CMPXCHG [y],EBX", "MOV [y],$1; LOCK CMPXCHG [x],EBX")
	l, _ := event.List(p, 3)
	x = api.Exec{Events: l, From: []int{-1, -1, -1, 1, -1, 0}, Order: [][]int{{0, 2}, {1, 4}}}
	text = "global: 0:0:Wx -lock-> 0:1:Ry* -fr-> 1:0:Wy -lock-> 1:1:Rx* -fr-> 0:0:Wx\n"
	check(t, "SB with tries that fail", p, x, want{api.MTSO, global(2, 3, 4, 5), nil, text})
	check(t, "SB with tries that fail", p, x, want{api.MPSO, global(2, 3, 4, 5), nil, text})

	// A write between the read and the write of a locked instruction.
	p = of(t, "", "LOCK XADD [x],EAX", "MOV [x],$1")
	x = exec(p, []int{-1, 0, -1, -1}, []int{0, 3, 2})
	for _, m := range models {
		check(t, "a write between", p, x, want{m, atomic(1, 3, 2), nil, "atomic: 0:0:Rx* -fr-> 1:0:Wx -co-> 0:0:Wx*\n"})
	}

	// The same, and elsewhere a round.
	p = of(t, "", "MOV [x],$1; MFENCE; MOV EAX,[y]", "MOV [y],$1; MFENCE; MOV EAX,[x]", "XCHG [z],EAX", "MOV [z],$1")
	x = exec(p, []int{-1, -1, -1, -1, -1, 1, -1, -1, 0, 2, -1, -1}, []int{0, 3}, []int{1, 6}, []int{2, 11, 10})
	for _, m := range models {
		text = "atomic: 2:0:Rz* -fr-> 3:0:Wz -co-> 2:0:Wz*\nglobal: 0:0:Wx -fence-> 0:2:Ry -fr-> 1:0:Wy -fence-> 1:2:Rx -fr-> 0:0:Wx\n"
		if m == api.MSC {
			text = strings.ReplaceAll(text, "fence", "po")
		}
		check(t, "a write between, and a round", p, x, want{m, append(atomic(9, 11, 10), global(3, 5, 6, 8)...), nil, text})
	}

	// Each reads its own write ahead of the others' (n6 of Owens, Sarkar and Sewell): rf counts from without alone.
	p = of(t, "x=0; y=0", "MOV [x],$1; MOV EAX,[x]; MOV EBX,[y]", "MOV [y],$1; MOV EAX,[y]; MOV EBX,[x]")
	x = exec(p, []int{-1, -1, -1, 2, 1, -1, 5, 0}, []int{0, 2}, []int{1, 5})
	check(t, "own writes", p, x, want{api.MSC, global(2, 4, 5, 7), nil, "global: 0:0:Wx -po-> 0:2:Ry -fr-> 1:0:Wy -po-> 1:2:Rx -fr-> 0:0:Wx\n"})
	check(t, "own writes", p, x, want{api.MTSO, nil, []int{0, 1, 3, 4, 5, 6, 7, 2}, ""})
	if a := axiom.Labels(x, 2, 3); !slices.Equal(a, []string{"po", "rfi"}) {
		t.Errorf("own writes: Labels: %q", a)
	}
}

// 19.1, 19.5: executions of no program.
func TestEdges(t *testing.T) {
	fence := api.Event{Kind: api.EFence, Loc: -1, Locked: true}
	write, read := api.Event{Kind: api.EWrite}, api.Event{Kind: api.ERead}
	// Fences stand between fences, and between what is of no kind; locked fences give nothing weight.
	x := api.Exec{Events: []api.Event{fence, fence, fence, {Kind: 9}, write, read}}
	if r, e := axiom.Global(api.MPSO, x); e != api.OK || r != over(6, 0, 2, 0, 3, 0, 4, 0, 5, 1, 3, 1, 4, 1, 5) {
		t.Errorf("fences: %v, %d", r, e)
	}
	if l := axiom.Labels(x, 0, 2); !slices.Equal(l, []string{"po", "fence"}) {
		t.Errorf("fences: %q", l)
	}
	if l := axiom.Labels(x, 0, 1); !slices.Equal(l, []string{"po"}) {
		t.Errorf("fences without one between: %q", l)
	}
	// An initial write that a thread does is a write: it may wait.
	x = api.Exec{Events: []api.Event{{Kind: api.EInit}, read, {Kind: api.EInit, Loc: 1}}}
	if r, e := axiom.Global(api.MTSO, x); e != api.OK || r != over(3, 0, 2, 1, 2) {
		t.Errorf("initial writes of a thread: %v, %d", r, e)
	}
	if r, e := axiom.Global(api.MPSO, x); e != api.OK || r != over(3, 1, 2) {
		t.Errorf("initial writes of a thread: %v, %d", r, e)
	}
	// A pair in many relations at once.
	a := api.Event{Kind: api.ERead, Locked: true}
	x = api.Exec{Events: []api.Event{a, fence, a, {Kind: api.EWrite, Thread: 1}}, From: []int{3, -1, 0, 0}, Order: [][]int{{3, 2}, {0, 2, 3}}}
	if l := axiom.Labels(x, 0, 2); !slices.Equal(l, []string{"po", "fence", "lock", "rfi", "coi", "fri"}) {
		t.Errorf("many labels: %q", l)
	}
	if l := axiom.Labels(x, 0, 3); !slices.Equal(l, []string{"rfe", "coe"}) {
		t.Errorf("labels from without: %q", l)
	}
	if l := axiom.Labels(x, 3, 2); !slices.Equal(l, []string{"coe", "fre"}) {
		t.Errorf("labels from without: %q", l)
	}
}

// 19.2, 19.6: rounds of executions of no program.
func TestRounds(t *testing.T) {
	p := someNames()
	init := api.Event{Kind: api.EInit, Thread: -1}
	read, write := api.Event{Kind: api.ERead, Locked: true}, api.Event{Kind: api.EWrite, Locked: true}
	at := func(e api.Event, thread, index int) api.Event {
		e.Thread, e.Index = thread, index
		return e
	}
	// A round of one event: it stands to itself.
	x := api.Exec{Events: []api.Event{init, init}, Order: [][]int{{0, 1, 1}}}
	for _, m := range models {
		check(t, "alone", p, x, want{m, append(uniproc(1), global(1)...), nil, "uniproc: i:x -co-> i:x\nglobal: i:x -co-> i:x\n"})
	}
	// Reading from itself: rf counts, rfe does not within a thread.
	x = api.Exec{Events: []api.Event{{Kind: api.ERead}}, From: []int{0}}
	check(t, "itself", p, x, want{api.MSC, append(uniproc(0), global(0)...), nil, "uniproc: 0:0:Rx -rf-> 0:0:Rx\nglobal: 0:0:Rx -rf-> 0:0:Rx\n"})
	check(t, "itself", p, x, want{api.MTSO, uniproc(0), nil, "uniproc: 0:0:Rx -rf-> 0:0:Rx\n"})
	// The write between may be the instruction's own, if the order has it twice.
	x = api.Exec{Events: []api.Event{init, read, write}, From: []int{-1, 0}, Order: [][]int{{0, 2, 2}}}
	check(t, "its own write", p, x, want{api.MTSO, slices.Concat(uniproc(2), atomic(1, 2, 2), global(2)), nil,
		"uniproc: 0:0:Wx* -co-> 0:0:Wx*\natomic: 0:0:Rx* -fr-> 0:0:Wx* -co-> 0:0:Wx*\nglobal: 0:0:Wx* -co-> 0:0:Wx*\n"})
	// Of several broken instructions and writes between: the first read, then the first write between, then the first write.
	other := at(write, 1, 0)
	x = api.Exec{
		Events: []api.Event{init, read, other, other, write, write, at(read, 0, 1), at(write, 0, 1)},
		From:   []int{-1, 0, -1, -1, -1, -1, 0},
		Order:  [][]int{{0, 2, 3, 5, 4, 7}},
	}
	l, e := axiom.Why(api.MPSO, x)
	if e != api.OK || len(l) == 0 || !slices.ContainsFunc(l, func(k api.Broken) bool { return same([]api.Broken{k}, atomic(1, 2, 4)) }) {
		t.Errorf("several: %v, %d", l, e)
	}
	// The arrows of atomic are fr and co, in whatever else the pairs stand: here the first one in co as well, and the second one in fr, because the write between reads.
	x = api.Exec{
		Events: []api.Event{init, read, at(write, 1, 0), write},
		From:   []int{-1, 0, 0, -1},
		Order:  [][]int{{0, 2, 3}, {1, 2}},
	}
	for _, m := range models {
		check(t, "reading writes", p, x, want{m, atomic(1, 2, 3), nil, "atomic: 0:0:Rx* -fr-> 1:0:Wx* -co-> 0:0:Wx*\n"})
	}
}

// 19.1 to 19.6: events that are too many are none; those of the greatest list are all known.
func TestMany(t *testing.T) {
	for _, n := range []int{63, 64, 65, 66, 1000} {
		x := api.Exec{Events: make([]api.Event, n), From: make([]int, n), Order: [][]int{{0, n - 1}, {n - 1, 0}}}
		for i := range x.Events {
			x.Events[i] = api.Event{Kind: api.EWrite, Loc: i, Locked: true}
			x.From[i] = -1
		}
		if n <= 64 {
			check(t, "many", someNames(), x, want{api.MTSO, append(uniproc(0, n-1), global(0, n-1)...), nil,
				"uniproc: 0:0:Wx* -co-> 0:0:W?* -co-> 0:0:Wx*\nglobal: 0:0:Wx* -po-> 0:0:W?* -co-> 0:0:Wx*\n"})
			if l := axiom.Labels(x, 0, n-1); !slices.Equal(l, []string{"po", "lock", "coi"}) {
				t.Errorf("%d events: %q", n, l)
			}
			continue
		}
		for _, m := range models {
			check(t, "too many", someNames(), x, want{m, nil, nil, ""})
			if r, e := axiom.Global(m, x); e != api.OK || r != (api.Rel{}) || axiom.Uniproc(x) != (api.Rel{}) {
				t.Errorf("%d events: %v, %d", n, r, e)
			}
		}
		if l := axiom.Labels(x, 0, n-1); len(l) != 0 {
			t.Errorf("%d events: %q", n, l)
		}
	}
}

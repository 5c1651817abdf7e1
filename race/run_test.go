package race_test

import (
	"fmt"
	"math"
	"slices"
	"testing"

	"weir/api"
	"weir/race"
	"weir/script"
)

// wholeRun is an unruly run of a program to its end.
func wholeRun(t *testing.T, roll func(int) int, p api.Prog) []api.Pick {
	t.Helper()
	m := machine(t, p)
	var l []api.Pick
	text := m.Start
	for picks := m.Picks(text); len(picks) > 0; picks = m.Picks(text) {
		k := pick(roll, picks)
		text, _ = m.Step(text, k)
		l = append(l, k)
	}
	return l
}

// someRun is one that may end ahead of that, and most often does not.
func someRun(t *testing.T, roll func(int) int, p api.Prog) []api.Pick {
	t.Helper()
	l := wholeRun(t, roll, p)
	if roll(5) == 0 {
		return l[:roll(len(l)+1)]
	}
	return l
}

// tells holds Clocks and Apart of a run against what they ought to answer, and says how many steps are put in order by locked instructions, and how many pairs are apart.
func tells(t *testing.T, p api.Prog, l []api.Pick) (int, int) {
	t.Helper()
	run, ok := runLines(t, p, l)
	if !ok {
		t.Fatalf("%v is no run of %.300s", l, told(p))
	}
	ahead := aheadOf(run)
	want := clocksBy(run, ahead, len(p.Threads))
	clocks, e := race.Clocks(p, l)
	if e != api.OK || !slices.EqualFunc(clocks, want, slices.Equal) {
		t.Fatalf("Clocks(%.300s, %v): %v, %d; want %v", told(p), l, clocks, e, want)
	}
	pairs := apartBy(linesOf(t, p), run, ahead)
	apart, e := race.Apart(p, l)
	if e != api.OK || !slices.Equal(apart, pairs) {
		t.Fatalf("Apart(%.300s, %v): %v, %d; want %v", told(p), l, apart, e, pairs)
	}
	orders := 0
	for a := range run {
		for b := range run {
			if ahead[a][b] && run[a].thread != run[b].thread {
				orders++
			}
		}
	}
	return orders, len(apart)
}

// The chapter's example 4.
func TestExampleRuns(t *testing.T) {
	p := of(t, "", "MOV [x],$1; XCHG [f],EAX", "XCHG [f],EAX; MOV EAX,[x]")
	for _, c := range []struct {
		run    string
		clocks [][]int
		apart  []api.Race
	}{
		{"0:s 0:s 1:s 1:s", [][]int{{1, 0}, {2, 0}, {2, 1}, {2, 2}}, nil},
		{"1:s 1:s 0:s 0:s", [][]int{{0, 1}, {0, 2}, {1, 0}, {2, 1}}, []api.Race{pair(0, 0, 1, 1)}},
		{"1:s 0:s 0:s 1:s", [][]int{{0, 1}, {1, 0}, {2, 1}, {0, 2}}, []api.Race{pair(0, 0, 1, 1)}},
		{"0:s 0:s 1:s", [][]int{{1, 0}, {2, 0}, {2, 1}}, nil},
		{"", nil, nil},
	} {
		l, err := script.Parse(c.run)
		if err != nil {
			t.Fatalf("%s: %v", c.run, err)
		}
		if clocks, e := race.Clocks(p, l); e != api.OK || !slices.EqualFunc(clocks, c.clocks, slices.Equal) {
			t.Errorf("Clocks, %s: %v, %d; want %v", c.run, clocks, e, c.clocks)
		}
		if apart, e := race.Apart(p, l); e != api.OK || !slices.Equal(apart, c.apart) {
			t.Errorf("Apart, %s: %v, %d; want %v", c.run, apart, e, c.apart)
		}
	}
}

// 29.6: runs that do not end have what was done alone; triangles are told as of a state.
func TestPartOfARun(t *testing.T) {
	for run, want := range map[string][]api.Race{
		"": nil, "0:s": nil, "0:s 0:s": nil, "0:s 1:s": nil,
		"0:s 0:s 1:s":     {tri(0, 1, 1, 0)},
		"0:s 1:s 1:s":     {tri(0, 0, 1, 1)},
		"1:s 1:s 0:s":     {tri(0, 0, 1, 1)},
		"0:s 0:s 1:s 1:s": {tri(0, 0, 1, 1), tri(0, 1, 1, 0)},
	} {
		l, _ := script.Parse(run)
		if apart, e := race.Apart(sb(t), l); e != api.OK || !slices.Equal(apart, want) {
			t.Errorf("Apart, %q: %v, %d; want %v", run, apart, e, want)
		}
	}
}

// 29.6: only what is locked and touches one location puts steps of unlike threads in order: a try that fails too, fences and plain instructions never.
func TestWhatOrders(t *testing.T) {
	for _, c := range []struct {
		first, second string
		want          int
	}{
		{"XCHG [f],EAX", "XCHG [f],EAX", 1}, {"LOCK XADD [f],EAX", "LOCK CMPXCHG [f],EBX", 1}, {"LOCK CMPXCHG [f],EBX", "LOCK CMPXCHG [f],EBX", 1}, {"LOCK CMPXCHG [f],EBX", "XCHG [f],EAX", 1},
		{"XCHG [f],EAX", "XCHG [g],EAX", 0}, {"XCHG [f],EAX", "MOV EAX,[f]", 0}, {"MOV [f],$1", "XCHG [f],EAX", 0}, {"MOV [f],$1", "MOV EAX,[f]", 0}, {"MFENCE", "MFENCE", 0}, {"MOV EAX,$1", "MOV EAX,$1", 0},
	} {
		p := of(t, "f=5; g=5", c.first, c.second)
		l, _ := script.Parse("0:s 1:s")
		clocks, e := race.Clocks(p, l)
		if want := [][]int{{1, 0}, {c.want, 1}}; e != api.OK || !slices.EqualFunc(clocks, want, slices.Equal) {
			t.Errorf("Clocks of %s behind %s: %v, %d; want %v", c.second, c.first, clocks, e, want)
		}
	}
	// By way of a third thread, over two locations; and back to the first one.
	p := of(t, "", "MOV [x],$1; XCHG [f],EAX; XCHG [g],EAX", "XCHG [f],EAX; XCHG [g],EAX", "XCHG [g],EAX; MOV EAX,[x]")
	l, _ := script.Parse("0:s 0:s 1:s 1:s 2:s 2:s 0:s")
	want := [][]int{{1, 0, 0}, {2, 0, 0}, {2, 1, 0}, {2, 2, 0}, {2, 2, 1}, {2, 2, 2}, {3, 2, 1}}
	if clocks, e := race.Clocks(p, l); e != api.OK || !slices.EqualFunc(clocks, want, slices.Equal) {
		t.Errorf("Clocks: %v, %d; want %v", clocks, e, want)
	}
	if apart, e := race.Apart(p, l); e != api.OK || len(apart) != 0 {
		t.Errorf("Apart: %v, %d", apart, e)
	}
}

// 29.6: unruly runs of small and great programs.
func TestRuns(t *testing.T) {
	roll := dice(296)
	orders, apart, progs := 0, 0, smallProgs(t, roll, 900)
	for range 300 {
		progs = append(progs, someProg(t, roll, 12, lockedInstr))
	}
	for _, p := range append(progs, greatProgs(t)[3:]...) {
		for range 3 {
			o, a := tells(t, p, someRun(t, roll, p))
			orders, apart = orders+o, apart+a
		}
	}
	if orders < 4000 || apart < 5000 {
		t.Errorf("%d steps ahead of another thread's, %d pairs apart", orders, apart)
	}
}

// 29.6: as many threads, locations and events as there may be, and very long runs.
func TestLongRuns(t *testing.T) {
	roll := dice(2961)
	for _, p := range greatProgs(t)[:2] {
		tells(t, p, wholeRun(t, roll, p))
	}
	p := greatProgs(t)[2]
	var l []api.Pick
	for i := range p.Threads {
		l = append(l, slices.Repeat([]api.Pick{{Thread: i, Kind: api.PStep}}, len(p.Threads[i]))...)
	}
	clocks, e := race.Clocks(p, l)
	if e != api.OK || len(clocks) != len(l) || !slices.Equal(clocks[len(l)-1], []int{0, 0, len(p.Threads[2])}) {
		t.Errorf("Clocks of %d steps: %d, %d", len(l), len(clocks), e)
	}
	if apart, e := race.Apart(p, l); e != api.OK || !slices.Equal(apart, find(t, p)) {
		t.Errorf("Apart: %v, %d", apart, e)
	}
}

// 29.6: all lists of up to three picks of all kinds, and of up to five out of few, that are runs or none.
func TestPicks(t *testing.T) {
	p := of(t, "", "MOV [x],$1; XCHG [y],EAX", "XCHG [y],EAX")
	var picks []api.Pick
	for _, thread := range []int{-1, 0, 1, 2} {
		for _, kind := range []int{api.PStep, api.PFlush, 0} {
			for _, loc := range []int{0, 1} {
				picks = append(picks, api.Pick{Thread: thread, Kind: kind, Loc: loc})
			}
		}
	}
	runs := 0
	for _, l := range allLists(picks, 3) {
		runs += refusedOrRun(t, p, l)
	}
	steps := []api.Pick{{Thread: 0, Kind: api.PStep}, {Thread: 1, Kind: api.PStep}, {Thread: 1, Kind: api.PFlush}}
	for _, l := range allLists(steps, 5) {
		runs += refusedOrRun(t, p, l)
	}
	if runs != 2*(1+2+3+3) {
		t.Errorf("%d runs", runs)
	}
	for _, bad := range []api.Pick{{}, {Thread: math.MaxInt, Kind: 1}, {Thread: math.MinInt, Kind: 1}, {Kind: math.MaxInt}, {Kind: 1, Loc: math.MinInt}, {Kind: 1, Loc: -1}} {
		refusedOrRun(t, p, []api.Pick{bad})
		refusedOrRun(t, bare(4), []api.Pick{bad})
	}
	refusedOrRun(t, bare(4), []api.Pick{{Kind: api.PStep}})
}

// allLists is all lists of up to so many picks.
func allLists(picks []api.Pick, most int) [][]api.Pick {
	all, last := [][]api.Pick{nil}, [][]api.Pick{nil}
	for range most {
		var next [][]api.Pick
		for _, l := range last {
			for _, k := range picks {
				next = append(next, append(slices.Clone(l), k))
			}
		}
		all, last = append(all, next...), next
	}
	return all
}

// refusedOrRun holds Clocks and Apart against the machine, and counts the list, if it is a run.
func refusedOrRun(t *testing.T, p api.Prog, l []api.Pick) int {
	t.Helper()
	if _, ok := runLines(t, p, l); ok {
		tells(t, p, l)
		return 1
	}
	if clocks, e := race.Clocks(p, l); e != api.ErrPick || len(clocks) != 0 {
		t.Fatalf("Clocks(%s): %v, %d", fmt.Sprint(p, l), clocks, e)
	}
	if apart, e := race.Apart(p, l); e != api.ErrPick || len(apart) != 0 {
		t.Fatalf("Apart(%s): %v, %d", fmt.Sprint(p, l), apart, e)
	}
	return 0
}

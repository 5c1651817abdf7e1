package witness_test

import (
	"math"
	"reflect"
	"slices"
	"sync"
	"testing"

	"weir/api"
	"weir/cand"
	"weir/explore"
	"weir/prog"
	"weir/script"
	"weir/witness"
)

// weak is SB's final state that sequential consistency does not allow.
func weak() api.Final { return final(0, 0, 1, 1) }

// parsed is the script of a text.
func parsed(t *testing.T, s string) []api.Pick {
	t.Helper()
	l, err := script.Parse(s)
	if err != nil {
		t.Fatalf("%s: %v", s, err)
	}
	return l
}

// execOf is what Of answers of a run.
func execOf(t *testing.T, kind int, p api.Prog, l []api.Pick) api.Exec {
	t.Helper()
	x, e := witness.Of(kind, p, l)
	if e != api.OK {
		t.Fatalf("Of(%d, %v, %v): %d", kind, p, l, e)
	}
	return x
}

// refuses tells which error all calls but Text answer, and that nothing comes with it.
func refuses(t *testing.T, what string, kind int, p api.Prog, want api.Errno) {
	t.Helper()
	for _, l := range [][]api.Pick{nil, {{Kind: api.PStep}}, {{Thread: 9}}} {
		if x, e := witness.Of(kind, p, l); e != want || told(x) != told(api.Exec{}) {
			t.Errorf("Of, %d, %s: %v %d; want %d", kind, what, x, e, want)
		}
		if s, e := witness.Story(kind, p, l); e != want || s != "" {
			t.Errorf("Story, %d, %s: %q %d; want %d", kind, what, s, e, want)
		}
	}
	for _, f := range []api.Final{{}, weak(), {N: -1}} {
		if l, e := witness.Schedule(kind, p, f); e != want || len(l) != 0 {
			t.Errorf("Schedule, %d, %s: %v %d; want %d", kind, what, l, e, want)
		}
		if x, e := witness.Execution(kind, p, f); e != want || told(x) != told(api.Exec{}) {
			t.Errorf("Execution, %d, %s: %v %d; want %d", kind, what, x, e, want)
		}
	}
	for _, x := range []api.Exec{{}, {Events: make([]api.Event, 70)}} {
		if l, e := witness.Realize(kind, p, x); e != want || len(l) != 0 {
			t.Errorf("Realize, %d, %s: %v %d; want %d", kind, what, l, e, want)
		}
	}
}

// 24.1: ErrRange ahead of the program's error, and that ahead of all else.
func TestErrors(t *testing.T) {
	for _, kind := range noKinds() {
		refuses(t, "SB", kind, sb(t), api.ErrRange)
		x := execOf(t, api.MSC, sb(t), parsed(t, "0:s 0:s 1:s 1:s"))
		if l, e := witness.Realize(kind, sb(t), x); e != api.ErrRange || len(l) != 0 {
			t.Errorf("Realize by %d: %v, %d", kind, l, e)
		}
	}
	for what, p := range wrongProgs(t) {
		want := prog.Valid(p)
		if want == api.OK {
			t.Fatalf("%s: the program is right", what)
		}
		for _, kind := range kinds() {
			refuses(t, what, kind, p, want)
		}
		for _, kind := range noKinds() {
			refuses(t, what, kind, p, api.ErrRange)
		}
		for _, x := range []api.Exec{{}, {Events: make([]api.Event, 70)}} {
			if s, e := witness.Text(p, x); e != want || s != "" {
				t.Errorf("Text, %s: %q %d; want %d", what, s, e, want)
			}
		}
	}
	events := sb(t)
	events.Threads[0] = append(events.Threads[0], slices.Repeat([]api.Op{{Kind: api.OFence}}, 59)...)
	refuses(t, "no thread", api.MTSO, api.Prog{}, api.ErrThreads)
	refuses(t, "65 events", api.MPSO, events, api.ErrEvents)
}

// 24.2: the execution of unruly runs, held against a player that knows who has written what.
func TestOf(t *testing.T) {
	roll := dice(242)
	progs := smallProgs(t, roll, 150, math.MaxInt)
	for _, p := range greatProgs(t) {
		progs = append(progs, p)
	}
	own, failed := 0, 0
	for _, p := range progs {
		for _, kind := range kinds() {
			m := machine(t, kind, p)
			for range 6 {
				l := someRun(t, roll, m)
				y, ok := played(kind, p, l)
				if !ok || !y.ended() {
					t.Fatalf("by %d the player does not take %v of %v", kind, l, p)
				}
				if x := execOf(t, kind, p, l); told(x) != told(y.exec()) {
					t.Fatalf("Of(%d, %v, %v): %v; want %v", kind, p, l, x, y.exec())
				}
				for by, c := range y.reads {
					if kind != api.MSC && by[0] == c.by[0] {
						own++
					}
				}
				for by := range y.reads {
					if _, ok := y.writes[by]; !ok && y.isTry(by) {
						failed++
					}
				}
			}
		}
	}
	if own < 1000 || failed < 1000 {
		t.Errorf("%d reads from writes of the own thread, %d tries that fail", own, failed)
	}
}

// 24.2: lists of picks that are no runs.
func TestOfRefuses(t *testing.T) {
	roll := dice(2422)
	refused := 0
	for _, p := range smallProgs(t, roll, 100, math.MaxInt) {
		for _, kind := range kinds() {
			l := someRun(t, roll, machine(t, kind, p))
			for n := range len(l) {
				ofRefused(t, kind, p, l[:n])
			}
			for _, k := range strangePicks() {
				at := roll(len(l) + 1)
				ofRefused(t, kind, p, slices.Insert(slices.Clone(l), at, k))
			}
			for range 10 { // what another order, another model or another thread would take
				other := slices.Clone(l)
				if len(other) > 0 {
					i, k := roll(len(other)), roll(len(other))
					other[i], other[k] = other[k], other[i]
					other[roll(len(other))].Loc = roll(3) / 2 * roll(2)
				}
				by := pick(roll, kinds())
				if y, ok := played(by, p, other); ok && y.ended() {
					if x := execOf(t, by, p, other); told(x) != told(y.exec()) {
						t.Fatalf("Of(%d, %v, %v): %v; want %v", by, p, other, x, y.exec())
					}
				} else {
					ofRefused(t, by, p, other)
					refused++
				}
			}
		}
	}
	if refused < 500 {
		t.Errorf("%d lists were refused", refused)
	}
	run := parsed(t, "0:s 0:s 1:s 1:s 0:f 1:f")
	for _, k := range append(strangePicks(), api.Pick{Kind: api.PStep}, api.Pick{Kind: api.PFlush}) {
		ofRefused(t, api.MTSO, sb(t), append(slices.Clone(run), k))
		ofRefused(t, api.MTSO, sb(t), slices.Concat(run, slices.Repeat([]api.Pick{k}, 1<<20)))
		ofRefused(t, api.MTSO, sb(t), []api.Pick{k})
	}
	for _, kind := range []int{api.MSC, api.MPSO} {
		ofRefused(t, kind, sb(t), run) // by MPSO a flush of y names its location
	}
}

func ofRefused(t *testing.T, kind int, p api.Prog, l []api.Pick) {
	t.Helper()
	if x, e := witness.Of(kind, p, l); e != api.ErrPick || told(x) != told(api.Exec{}) {
		t.Fatalf("Of(%d, %v, %.300v): %v, %d; want ErrPick", kind, p, l, x, e)
	}
}

// 24.3: Schedule of each final state, held against explore.Ways, and of others.
func TestSchedule(t *testing.T) {
	roll := dice(243)
	none, found := 0, 0
	for _, p := range smallProgs(t, roll, 150, math.MaxInt) {
		all := map[api.Final]int{}
		for _, kind := range kinds() {
			ways, e := explore.Ways(machine(t, kind, p), math.MaxInt)
			if e != api.OK {
				t.Fatalf("explore.Ways of %v by %d: %d", p, kind, e)
			}
			for _, w := range ways {
				l, e := witness.Schedule(kind, p, w.Final)
				if e != api.OK || !slices.Equal(l, w.Picks) {
					t.Fatalf("Schedule(%d, %v, %v): %v, %d; want %v", kind, p, w.Final, l, e, w.Picks)
				}
				if y, ok := played(kind, p, l); !ok || !y.ended() || y.final() != w.Final {
					t.Fatalf("Schedule(%d, %v, %v): %v leads elsewhere", kind, p, w.Final, l)
				}
				all[w.Final] = kind
				found++
			}
		}
		for f, first := range all { // the weakest model has them all
			for _, kind := range kinds() {
				ways, _ := explore.Ways(machine(t, kind, p), math.MaxInt)
				if slices.ContainsFunc(ways, func(w api.Way) bool { return w.Final == f }) {
					continue
				}
				none++
				if l, e := witness.Schedule(kind, p, f); e != api.ErrNone || len(l) != 0 || first == kind {
					t.Fatalf("Schedule(%d, %v, %v): %v, %d; want ErrNone", kind, p, f, l, e)
				}
			}
		}
	}
	if none < 20 || found < 1000 {
		t.Errorf("final states of no run: %d, of runs: %d", none, found)
	}
}

// 24.3, 24.4: final states of no run and no candidate.
func TestNone(t *testing.T) {
	for what, turn := range map[string]func(*api.Final){
		"nothing":        func(f *api.Final) { *f = api.Final{} },
		"a value less":   func(f *api.Final) { f.N-- },
		"a value more":   func(f *api.Final) { f.N++ },
		"48 values":      func(f *api.Final) { f.N = api.MaxFinal },
		"too many":       func(f *api.Final) { f.N = api.MaxFinal + 1 },
		"far too many":   func(f *api.Final) { f.N = math.MaxInt },
		"below 0":        func(f *api.Final) { f.N = math.MinInt },
		"one behind":     func(f *api.Final) { f.V[4] = 1 },
		"one at the end": func(f *api.Final) { f.V[47] = 1 },
		"another value":  func(f *api.Final) { f.V[3] = 0 },
		"a strange one":  func(f *api.Final) { f.V[0] = math.MinInt64 },
	} {
		f := weak()
		turn(&f)
		for _, kind := range kinds() {
			if l, e := witness.Schedule(kind, sb(t), f); e != api.ErrNone || len(l) != 0 {
				t.Errorf("Schedule by %d, %s: %v, %d", kind, what, l, e)
			}
			if x, e := witness.Execution(kind, sb(t), f); e != api.ErrNone || told(x) != told(api.Exec{}) {
				t.Errorf("Execution by %d, %s: %v, %d", kind, what, x, e)
			}
		}
	}
	// A program without values has one final state, and it is the zero one.
	for _, kind := range kinds() {
		if l, e := witness.Schedule(kind, bare(2), api.Final{}); e != api.OK || len(l) != 0 {
			t.Errorf("Schedule of a bare program: %v, %d", l, e)
		}
		if x, e := witness.Execution(kind, bare(2), api.Final{}); e != api.OK || len(x.Regs) != 2 {
			t.Errorf("Execution of a bare program: %v, %d", x, e)
		}
		if x, e := witness.Of(kind, bare(2), nil); e != api.OK || len(x.Regs) != 2 || len(x.Events) != 0 {
			t.Errorf("Of of a bare program: %v, %d", x, e)
		}
	}
}

// 24.4, 24.5: Execution of each final state that a candidate has, and Realize of each candidate.
func TestExecutionAndRealize(t *testing.T) {
	roll := dice(244)
	none, struck, several := 0, 0, 0
	for _, p := range smallProgs(t, roll, 250, 400) {
		all := candidates(t, p)
		for _, kind := range kinds() {
			firsts := map[api.Final]api.Exec{}
			for _, x := range all {
				if realizes(t, kind, p, x) {
					if _, had := firsts[endOf(x)]; had {
						several++
					} else {
						firsts[endOf(x)] = x
					}
				} else {
					struck++
				}
			}
			for _, x := range all {
				f := endOf(x)
				want, err := firsts[f], api.OK
				if len(want.Regs) == 0 {
					err = api.ErrNone
					none++
				}
				if y, e := witness.Execution(kind, p, f); e != err || told(y) != told(want) {
					t.Fatalf("Execution(%d, %v, %v): %v, %d; want %v, %d", kind, p, f, y, e, want, err)
				}
			}
		}
	}
	if none < 300 || struck < 1000 || several < 300 {
		t.Errorf("final states that are not allowed: %d; candidates that are not: %d, that are not the first: %d", none, struck, several)
	}
}

// realizes holds Realize of a candidate; it answers whether the candidate obeys the model.
func realizes(t *testing.T, kind int, p api.Prog, x api.Exec) bool {
	t.Helper()
	l, e := witness.Realize(kind, p, x)
	if !obeys(t, kind, x) {
		if e != api.ErrNone || len(l) != 0 {
			t.Fatalf("Realize(%d, %v, %v): %v, %d; want ErrNone", kind, p, x, l, e)
		}
		return false
	}
	y, ok := played(kind, p, l)
	if e != api.OK || !ok || !y.ended() || told(y.exec()) != told(x) {
		t.Fatalf("Realize(%d, %v, %v): %v, %d; its execution: %v", kind, p, x, l, e, y.exec())
	}
	if y := execOf(t, kind, p, l); told(y) != told(x) {
		t.Fatalf("Of(%d, %v, %v): %v; it is Realize's of %v", kind, p, l, y, x)
	}
	if again, e := witness.Realize(kind, p, x); e != api.OK || !slices.Equal(again, l) {
		t.Fatalf("Realize(%d, %v, %v): %v, then %v", kind, p, x, l, again)
	}
	return true
}

// 24.5, 24.6: what is no candidate.
func TestNoCandidates(t *testing.T) {
	right := execOf(t, api.MTSO, sb(t), parsed(t, "0:s 0:s 1:s 1:s 0:f 1:f"))
	for what, twist := range twists() {
		x := wide(right)
		twist(&x)
		if want := cand.Check(sb(t), x); want != api.ErrExec {
			t.Fatalf("%s: cand.Check: %d", what, want)
		}
		for _, kind := range kinds() { // by MSC ErrExec comes ahead of ErrNone
			if l, e := witness.Realize(kind, sb(t), x); e != api.ErrExec || len(l) != 0 {
				t.Errorf("Realize by %d, %s: %v, %d", kind, what, l, e)
			}
		}
		if s, e := witness.Text(sb(t), x); e != api.ErrExec || s != "" {
			t.Errorf("Text, %s: %q, %d", what, s, e)
		}
	}
	for _, kind := range kinds() {
		if _, e := witness.Realize(kind, mp(t), right); e != api.ErrExec {
			t.Errorf("Realize by %d of another program's: %d", kind, e)
		}
	}
}

// 24.8, R4: nothing is changed or kept, and answers share no memory.
func TestMemory(t *testing.T) {
	roll := dice(248)
	for _, q := range smallProgs(t, roll, 100, 200) {
		p := wide(q)
		for _, kind := range kinds() {
			l := wide(someRun(t, roll, machine(t, kind, q)))
			x := wide(execOf(t, kind, q, l))
			before := whole(reflect.ValueOf(p)) + whole(reflect.ValueOf(l)) + whole(reflect.ValueOf(x))
			lists := []any{p, l, x}
			want := [2]string{}
			for i := range 2 {
				a, _ := witness.Of(kind, p, l)
				b, _ := witness.Schedule(kind, p, endOf(x))
				c, _ := witness.Execution(kind, p, endOf(x))
				d, _ := witness.Realize(kind, p, x)
				text, _ := witness.Text(p, x)
				story, _ := witness.Story(kind, p, l)
				lists = append(lists, a, b, c, d)
				want[i] = told(a) + told(c) + text + story
			}
			if after := whole(reflect.ValueOf(p)) + whole(reflect.ValueOf(l)) + whole(reflect.ValueOf(x)); after != before {
				t.Fatalf("what was handed in has changed: %s; it was %s", after, before)
			}
			if want[0] != want[1] {
				t.Fatalf("asked twice: %s, %s", want[0], want[1])
			}
			apart(t, lists...)
		}
	}
}

// R5: many may ask at once.
func TestAtOnce(t *testing.T) {
	p := of(t, "0:EBX=1; 1:EBX=2", "LOCK CMPXCHG [x],EBX; MOV EAX,[x]", "LOCK CMPXCHG [x],EBX; MOV [x],$3")
	ways, _ := explore.Ways(machine(t, api.MTSO, p), math.MaxInt)
	var group sync.WaitGroup
	for range 8 {
		group.Go(func() {
			for _, w := range ways {
				l, e := witness.Schedule(api.MTSO, p, w.Final)
				if e != api.OK || !slices.Equal(l, w.Picks) {
					t.Errorf("Schedule: %v, %d; want %v", l, e, w.Picks)
				}
				x, e := witness.Of(api.MTSO, p, l)
				if e != api.OK || endOf(x) != w.Final {
					t.Errorf("Of(%v): %v, %d; want %v", l, x, e, w.Final)
				}
			}
		})
	}
	group.Wait()
}

// The chapter's examples 1 and 2.
func TestExamples(t *testing.T) {
	l, e := witness.Schedule(api.MTSO, sb(t), weak())
	if s, _ := script.Text(l); e != api.OK || s != "0:s 0:s 1:s 1:s 0:f 1:f" {
		t.Errorf("Schedule by MTSO: %s, %d", s, e)
	}
	if l, e := witness.Schedule(api.MSC, sb(t), weak()); e != api.ErrNone || len(l) != 0 {
		t.Errorf("Schedule by MSC: %v, %d", l, e)
	}
	want := api.Exec{
		Events: []api.Event{
			{Kind: api.EInit, Thread: -1}, {Kind: api.EInit, Thread: -1, Loc: 1},
			{Kind: api.EWrite}, {Kind: api.ERead, Index: 1, Loc: 1}, {Kind: api.EWrite, Thread: 1, Loc: 1}, {Kind: api.ERead, Thread: 1, Index: 1},
		},
		Values: []int64{0, 0, 1, 0, 1, 0}, From: []int{-1, -1, -1, 1, -1, 0}, Order: [][]int{{0, 2}, {1, 4}}, Regs: [][]int64{{0}, {0}},
	}
	if x, e := witness.Execution(api.MTSO, sb(t), weak()); e != api.OK || told(x) != told(want) {
		t.Errorf("Execution by MTSO: %v, %d", x, e)
	}
	if _, e := witness.Execution(api.MSC, sb(t), weak()); e != api.ErrNone {
		t.Errorf("Execution by MSC: %d", e)
	}
	if x := execOf(t, api.MTSO, sb(t), l); told(x) != told(want) {
		t.Errorf("Of(%v): %v", l, x)
	}
	ofRefused(t, api.MTSO, sb(t), l[:5])
	// By PSO a flush names its location.
	if l, e := witness.Schedule(api.MPSO, mp(t), final(1, 0, 1, 1)); e != api.OK || !slices.Equal(l, parsed(t, "0:s 0:s 0:f:1 1:s 1:s 0:f")) {
		t.Errorf("Schedule of MP by MPSO: %v, %d", l, e)
	}
	if _, e := witness.Schedule(api.MTSO, mp(t), final(1, 0, 1, 1)); e != api.ErrNone {
		t.Errorf("Schedule of MP by MTSO: %d", e)
	}
}

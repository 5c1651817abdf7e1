package witness_test

import (
	"math"
	"slices"
	"testing"

	"weir/api"
	"weir/cand"
	"weir/explore"
	"weir/script"
	"weir/witness"
)

// runsOf goes through all runs of a machine.
func runsOf(m api.Machine, text string, ahead []api.Pick, visit func([]api.Pick)) {
	if _, end := m.End(text); end {
		visit(ahead)
	}
	for _, k := range m.Picks(text) {
		if next, ok := m.Step(text, k); ok {
			runsOf(m, next, append(slices.Clone(ahead), k), visit)
		}
	}
}

// 24.9, 24.10: all runs of small programs: their executions are just the candidates that obey the model.
func TestAllRuns(t *testing.T) {
	roll := dice(249)
	runs, shared := 0, 0
	for _, p := range smallProgs(t, roll, 300, 1000) {
		for _, kind := range kinds() {
			m := machine(t, kind, p)
			if n, e := explore.Runs(m, math.MaxInt); e != api.OK || n > 1500 {
				continue
			}
			seen := map[string]int{}
			runsOf(m, m.Start, nil, func(l []api.Pick) {
				runs++
				x := execOf(t, kind, p, l)
				if f, ok := script.Outcome(m, l); !ok || endOf(x) != f {
					t.Fatalf("Of(%d, %v, %v): %v; the run ends in %v", kind, p, l, x, f)
				}
				if seen[told(x)]++; seen[told(x)] == 2 {
					shared++
				}
			})
			allowed := 0
			for _, x := range candidates(t, p) {
				if obeys(t, kind, x) != (seen[told(x)] > 0) {
					t.Fatalf("by %d the execution %v of %v has %d runs", kind, x, p, seen[told(x)])
				}
				if seen[told(x)] > 0 {
					allowed++
				}
			}
			if allowed != len(seen) {
				t.Fatalf("by %d the runs of %v have %d executions; %d are candidates that are allowed", kind, p, len(seen), allowed)
			}
		}
	}
	if runs < 20000 || shared < 500 {
		t.Errorf("%d runs; %d executions have several", runs, shared)
	}
}

// 24.9, 24.10: runs of great programs, there and back; what a model allows those that are weaker allow.
func TestGreatRuns(t *testing.T) {
	roll := dice(2410)
	for what, p := range greatProgs(t) {
		for at, kind := range kinds() {
			m := machine(t, kind, p)
			for range 4 {
				l := someRun(t, roll, m)
				x := execOf(t, kind, p, l)
				f, ok := script.Outcome(m, l)
				if end, e := cand.End(p, x); !ok || e != api.OK || end != f {
					t.Fatalf("%s by %d: the execution of %v has the end %v, %d; want %v", what, kind, l, end, e, f)
				}
				for _, weaker := range kinds()[at:] {
					if !realizes(t, weaker, p, x) {
						t.Fatalf("%s: %d does not allow the execution of a run by %d", what, weaker, kind)
					}
				}
			}
		}
	}
}

// 24.11: Schedule and Execution of all final states that a candidate or a run has.
func TestBothRoads(t *testing.T) {
	roll := dice(2411)
	found, none := 0, 0
	for _, p := range smallProgs(t, roll, 200, 300) {
		finals := map[api.Final]int{}
		for _, x := range candidates(t, p) {
			finals[endOf(x)]++
		}
		for f := range finals {
			for _, kind := range kinds() {
				l, e := witness.Schedule(kind, p, f)
				x, e2 := witness.Execution(kind, p, f)
				if e != e2 || e != api.OK && e != api.ErrNone {
					t.Fatalf("%v by %d, %v: Schedule %d, Execution %d", p, kind, f, e, e2)
				}
				if e == api.ErrNone {
					none++
					continue
				}
				found++
				m := machine(t, kind, p)
				if g, ok := script.Outcome(m, l); !ok || g != f || endOf(x) != f || endOf(execOf(t, kind, p, l)) != f {
					t.Fatalf("%v by %d, %v: the run ends in %v, the execution is %v", p, kind, f, g, x)
				}
				for text, depth := range explore.States(m) {
					if g, ok := m.End(text); ok && g == f && depth < len(l) {
						t.Fatalf("Schedule(%d, %v, %v): %v; there is one of %d picks", kind, p, f, l, depth)
					}
				}
			}
		}
	}
	if found < 500 || none < 100 {
		t.Errorf("found: %d, none: %d", found, none)
	}
}

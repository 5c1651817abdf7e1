package cycle_test

import (
	"math"
	"slices"
	"testing"

	"weir/api"
	"weir/cycle"
	"weir/prog"
	"weir/reduce"
	"weir/verdict"
)

// 26.7: all turns have one canonical form, which is one of them and its own, and one test.
func TestTurns(t *testing.T) {
	one := func(l []string) {
		t.Helper()
		c, e := cycle.Canon(l)
		if e != api.OK || !slices.ContainsFunc(turns(l), func(turn []string) bool { return slices.Equal(turn, c) }) {
			t.Fatalf("Canon(%v): %v, %d", l, c, e)
		}
		x, xe := cycle.Test(l)
		for _, turn := range append(turns(l), c) {
			if d, e := cycle.Canon(turn); e != api.OK || !slices.Equal(d, c) {
				t.Fatalf("Canon(%v): %v, %d; of a turn %v", turn, d, e, c)
			}
			if y, e := cycle.Test(turn); e != xe || !same(x, y) {
				t.Fatalf("Test(%v): %v, %d; of a turn %v, %d", turn, y, e, x, xe)
			}
		}
	}
	for n := 4; n <= 5; n++ {
		for l := range over(t, words(known), n) {
			one(l)
		}
	}
	roll := dice(267)
	for range 2000 {
		one(someCycle(t, roll, 4+roll(13), 2+roll(6)))
	}
}

// gone tells whether there is a final state by a model of which a test's condition holds.
func gone(t *testing.T, model int, x api.Test) bool {
	t.Helper()
	p, e := prog.Of(x)
	if e != api.OK {
		t.Fatalf("Of(%v): %d", x, e)
	}
	l, _, e := reduce.Finals(model, p, math.MaxInt)
	if e != api.OK || len(l) == 0 {
		t.Fatalf("Finals(%d, %v): %v, %d", model, p, l, e)
	}
	n, _, e := verdict.Count(x, l)
	if e != api.OK {
		t.Fatalf("Count(%v): %d", x, e)
	}
	return n > 0
}

// plain tells whether no location of a test has more than two writes.
func plain(x api.Test) bool {
	writes := map[string]int{}
	for _, l := range x.Threads {
		for _, in := range l {
			if in.Op == api.OStoreImm {
				writes[in.Loc]++
			}
		}
	}
	for _, n := range writes {
		if n > 2 {
			return false
		}
	}
	return true
}

// strict tells whether none of a cycle's edges is one along which x86-TSO lets a read go ahead.
func strict(l []string) bool {
	return !slices.ContainsFunc(l, func(s string) bool { return s == "Rfi" || s == "PodWR" || s == "PosWR" })
}

// 26.8, 26.9: all cycles of four and five edges, some of six to eight.
func TestForbidden(t *testing.T) {
	var cycles [][]string
	for n := 4; n <= 5; n++ {
		cycles = append(cycles, all(t, words(known), n)...)
	}
	roll := dice(268)
	for range 1500 {
		cycles = append(cycles, someCycle(t, roll, 6+roll(3), 2+roll(3)))
	}
	// Locations of very few writes, and no reads that go ahead: else most long cycles would be left out.
	for range 1500 {
		names := words("Rfe Fre Fri Coe PodRR PodRW PodWW PosRR MFencedRR MFencedRW MFencedWR MFencedWW")
		l := all(t, someNames(roll, names, 5), 6)
		if len(l) > 0 {
			cycles = append(cycles, pick(roll, l))
		}
	}
	asked, buffered, loose := 0, 0, 0
	for _, l := range cycles {
		x, e := cycle.Test(l)
		if e != api.OK || !plain(x) {
			continue
		}
		asked++
		if gone(t, api.MSC, x) {
			t.Fatalf("%v: sequential consistency allows %v", l, x)
		}
		switch byTSO := gone(t, api.MTSO, x); {
		case strict(l):
			buffered++
			if byTSO {
				t.Fatalf("%v: x86-TSO allows %v", l, x)
			}
		case byTSO:
			loose++
		}
	}
	if asked < 2000 || buffered < 1000 || loose < 100 {
		t.Errorf("%d cycles, %d of them forbidden by x86-TSO too; %d others are allowed", asked, buffered, loose)
	}
}

// The tests ask what people know of them: which of the three models allow a cycle.
func TestKnownCycles(t *testing.T) {
	for s, want := range map[string]int{ // how many of MSC, MTSO and MPSO forbid it
		"PodWR Fre PodWR Fre":                   1, // SB
		"MFencedWR Fre PodWR Fre":               1,
		"MFencedWR Fre MFencedWR Fre":           3,
		"Rfi PodRR Fre Rfi PodRR Fre":           1,
		"PodWR Fre PodWW Coe":                   1, // R
		"PodWR Fre PodWR Fre PodWR Fre":         1,
		"Rfe PodRR Fre PodWR Fre":               1, // RWC
		"Rfe PodRR Fre MFencedWR Fre":           3,
		"PodWW Rfe PodRR Fre":                   2, // MP
		"MFencedWW Rfe PodRR Fre":               3,
		"PodWW Coe PodWW Coe":                   2, // 2+2W
		"MFencedWW Coe PodWW Coe":               2,
		"MFencedWW Coe MFencedWW Coe":           3,
		"PodWW Rfe PodRW Coe":                   2, // S
		"PodRW Rfe PodRW Rfe":                   3, // LB
		"Rfe PodRR Fre Rfe PodRR Fre":           3, // IRIW
		"Rfe PodRW Rfe PodRR Fre":               3, // WRC
		"Rfe PodRR PodRR Fre Rfe PodRR Fre":     3,
		"PodWW PosWW Rfe PosRR PodRR Fre":       2,
		"PosWR PodRR Fre PosWR PodRR Fre":       1,
		"PodWW Rfe PodRR Fri Rfe PodRR Fre Coe": 2,
	} {
		x := testOf(t, words(s))
		forbid := 0
		for _, model := range []int{api.MSC, api.MTSO, api.MPSO} {
			if !gone(t, model, x) {
				forbid++
			}
		}
		if forbid != want {
			t.Errorf("%s: %d models forbid it, %d ought to", s, forbid, want)
		}
	}
}

package race_test

import (
	"slices"
	"testing"

	"weir/api"
	"weir/race"
	"weir/robust"
)

// 29.5: a program without triangular races is robust, by the full machines too; Lock makes it so.
func TestCalmIsRobust(t *testing.T) {
	roll := dice(2951)
	free, calm, others, mended := 0, 0, 0, 0
	robustBy := func(p api.Prog) bool {
		return slices.Equal(endsBy(t, api.MSC, p), endsBy(t, api.MTSO, p))
	}
	for _, p := range smallProgs(t, roll, 900) {
		isCalm, _ := race.Calm(p)
		isFree, _ := race.Free(p)
		isRobust := robustBy(p)
		if ok, e := robust.Robust(p); e != api.OK || ok != isRobust || (isCalm || isFree) && !ok {
			t.Fatalf("%v: robust %v, %d; calm %v, free %v", p, ok, e, isCalm, isFree)
		}
		q, e := race.Lock(p)
		ok, _ := race.Calm(q)
		if e != api.OK || !ok || !robustBy(q) {
			t.Fatalf("Lock(%v), %v, %d: calm %v", p, q, e, ok)
		}
		switch {
		case isFree:
			free++
		case isCalm:
			calm++
		default:
			others++
		}
		if !isRobust {
			mended++
		}
	}
	if free < 50 || calm < 150 || others < 300 || mended < 100 {
		t.Errorf("%d programs without races, %d without triangular ones, %d with; %d mended", free, calm, others, mended)
	}
}

// 29.5: great programs that Lock answers have no triangular race.
func TestLockedIsCalm(t *testing.T) {
	calm := 0
	for _, p := range greatProgs(t) {
		q, e := race.Lock(p)
		if e == api.ErrEvents {
			continue
		}
		if ok, e := race.Calm(q); !ok || e != api.OK {
			t.Fatalf("Lock(%.300s) has triangular races: %v", told(p), find(t, q))
		}
		calm++
	}
	if calm < 100 {
		t.Errorf("%d programs", calm)
	}
}

// 29.5: where all that touches memory is locked, there is no race, and all models have the same final states.
func TestAllLocked(t *testing.T) {
	roll := dice(2952)
	several := 0
	for range 1500 {
		p := someProg(t, roll, 8, lockedInstr)
		if ok, e := race.Free(p); !ok || e != api.OK {
			t.Fatalf("Free(%v): %v, %d", p, ok, e)
		}
		ends := endsBy(t, api.MSC, p)
		if !slices.Equal(endsBy(t, api.MTSO, p), ends) || !slices.Equal(endsBy(t, api.MPSO, p), ends) {
			t.Fatalf("%v: sequential consistency has %v, others more", p, ends)
		}
		if len(ends) > 1 {
			several++
		}
	}
	if several < 50 {
		t.Errorf("%d programs have several final states", several)
	}
}

// 29.5: what is apart in a run is a race of the program, and clocks tell which step is ahead of which.
func TestRunsFollow(t *testing.T) {
	roll := dice(2953)
	none, some := 0, 0
	for _, p := range smallProgs(t, roll, 600) {
		races, l := find(t, p), someRun(t, roll, p)
		apart, e := race.Apart(p, l)
		if e != api.OK {
			t.Fatalf("Apart(%v, %v): %d", p, l, e)
		}
		for _, r := range apart {
			if !slices.Contains(races, r) {
				t.Fatalf("Apart(%v, %v): %v, which is none of %v", p, l, r, races)
			}
		}
		run, _ := runLines(t, p, l)
		ahead := aheadOf(run)
		clocks, _ := race.Clocks(p, l)
		for a := range run {
			for b := range run {
				greater := slices.ContainsFunc([]int{0, 1, 2, 3}[:len(p.Threads)], func(i int) bool { return clocks[a][i] > clocks[b][i] })
				if ahead[a][b] != (a != b && !greater) {
					t.Fatalf("Clocks(%v, %v): %v, of the steps %d and %d", p, l, clocks, a, b)
				}
			}
		}
		if len(apart) < len(races) {
			none++
		} else if len(apart) > 0 {
			some++
		}
	}
	if none < 50 || some < 50 {
		t.Errorf("%d runs with fewer pairs than races, %d others", none, some)
	}
}

// 29.5: two steps right behind each other that would be a race in a state are apart: so each race is one of some run.
func TestNextAreApart(t *testing.T) {
	roll := dice(2954)
	races := 0
	for _, p := range smallProgs(t, roll, 600) {
		for _, r := range find(t, p) {
			way, e := race.Way(p, r)
			if e != api.OK {
				t.Fatalf("Way(%v, %v): %d", p, r, e)
			}
			a, b := api.Pick{Thread: r.A.I, Kind: api.PStep}, api.Pick{Thread: r.B.I, Kind: api.PStep}
			for _, l := range [][]api.Pick{slices.Concat(way, []api.Pick{a, b}), slices.Concat(way, []api.Pick{b, a})} {
				if apart, e := race.Apart(p, l); e != api.OK || !slices.Contains(apart, r) {
					t.Fatalf("Apart(%v, %v): %v, %d; want %v among them", p, l, apart, e, r)
				}
			}
			races++
		}
	}
	if races < 1000 {
		t.Errorf("%d races", races)
	}
}

package robust_test

import (
	"slices"
	"strings"
	"testing"

	"weir/api"
	"weir/robust"
)

// within tells whether each member of a list is one of another.
func within(l, others []api.Final) bool {
	return !slices.ContainsFunc(l, func(f api.Final) bool { return !slices.Contains(others, f) })
}

// fence is a program with fences, which no limit refuses.
func fence(t *testing.T, p api.Prog, s api.Set) api.Prog {
	t.Helper()
	q, e := robust.Fence(p, s)
	if e != api.OK {
		t.Fatalf("Fence(%v, %b): %d", p, s, e)
	}
	return q
}

func suspectSet(t *testing.T, p api.Prog) api.Set {
	t.Helper()
	s, e := robust.Suspects(p)
	if e != api.OK {
		t.Fatalf("Suspects(%v): %d", p, e)
	}
	return s
}

// 25.5, W9: no suspect load, or a fence at each one, or at each slot: the full machines come to the same final states.
func TestFencedIsRobust(t *testing.T) {
	roll := dice(255)
	free, mended := 0, 0
	for _, p := range smallProgs(t, roll, 900) {
		s, every := suspectSet(t, p), api.Set(1)<<len(slotsOf(t, p))-1
		for _, f := range []api.Set{s, every} {
			q := fence(t, p, f)
			if suspectSet(t, q) != 0 {
				t.Fatalf("%v with fences at %b has suspect loads", p, f)
			}
			if l := extraOf(t, q); len(l) != 0 {
				t.Fatalf("%v with fences at %b has %v", p, f, l)
			}
		}
		if s == 0 {
			free++
		} else if len(extraOf(t, p)) > 0 {
			mended++
		}
	}
	if free < 100 || mended < 100 {
		t.Errorf("%d programs have no suspect load, %d are mended by fences", free, mended)
	}
}

// 25.5: fences take final states away, and never one of sequential consistency.
func TestFencesTakeAway(t *testing.T) {
	roll := dice(2551)
	fewer := 0
	for _, p := range smallProgs(t, roll, 500) {
		strict, buffered := strictEnds(t, p), bufferedEnds(t, p)
		for range 3 {
			s := api.Set(roll(1 << len(slotsOf(t, p))))
			q := fence(t, p, s)
			now := bufferedEnds(t, q)
			if !slices.Equal(strictEnds(t, q), strict) || !within(strict, now) || !within(now, buffered) {
				t.Fatalf("%v with fences at %b: %v; without %v, sequentially consistent %v", p, s, now, buffered, strict)
			}
			if extra, e := robust.Extra(q); e != api.OK || len(extra)+len(strict) != len(now) {
				t.Fatalf("Extra of %v with fences at %b: %v, %d", p, s, extra, e)
			}
			if len(now) < len(buffered) {
				fewer++
			}
		}
	}
	if fewer < 100 {
		t.Errorf("%d times fences took a final state away", fewer)
	}
}

// 25.5, W9: within the suspect slots lies a least set; least sets are robust and least.
func TestLeastWithinSuspects(t *testing.T) {
	roll := dice(2552)
	proper := 0
	for _, p := range smallProgs(t, roll, 400) {
		if len(slotsOf(t, p)) > 5 {
			continue
		}
		s, l := suspectSet(t, p), leastSets(t, p)
		at := slices.IndexFunc(l, func(part api.Set) bool { return part&^s == 0 })
		if at < 0 {
			t.Fatalf("Least(%v): %b; none is within %b", p, l, s)
		}
		if l[at] != s {
			proper++
		}
		for _, part := range l {
			if len(extraOf(t, fence(t, p, part))) != 0 {
				t.Fatalf("Least(%v): with %b it is not robust", p, part)
			}
			for i := range 64 {
				if part>>i&1 == 1 && len(extraOf(t, fence(t, p, part&^(1<<i)))) == 0 {
					t.Fatalf("Least(%v): %b needs no fence at %d", p, part, i)
				}
			}
		}
	}
	if proper < 50 {
		t.Errorf("%d programs have suspect slots that need no fence", proper)
	}
}

// W9: great programs without suspect loads need no fence, and that is told without going through their runs.
func TestGreatWithoutSuspects(t *testing.T) {
	for what, p := range map[string]api.Prog{
		"no load behind a store": of(t, "", strings.Repeat("MOV EAX,[x];", 8)+strings.Repeat("MOV [y],$1; MOV [z],$2;", 4), strings.Repeat("MOV EAX,[y];", 8)+strings.Repeat("MOV [z],$1; MOV [x],$2;", 4), strings.Repeat("MOV EAX,[z];", 8)+strings.Repeat("MOV [x],$1; MOV [y],$2;", 4)),
		"fences between":         of(t, "", strings.Repeat("MOV [x],$1; MFENCE; MOV EAX,[y];", 7), strings.Repeat("MOV [y],$1; MFENCE; MOV EAX,[x];", 7), strings.Repeat("MOV [y],$2; LOCK XADD [x],EAX; MOV EBX,[x];", 4)),
		"locations of one's own": of(t, "", strings.Repeat("MOV [a],$1; MOV EAX,[b];", 7), strings.Repeat("MOV [c],$1; MOV EAX,[d];", 7), strings.Repeat("MOV [e],$1; MOV EAX,[f];", 7), strings.Repeat("MOV [g],$1; MOV EAX,[h];", 7)),
	} {
		if s := suspectSet(t, p); s != 0 {
			t.Fatalf("%s: Suspects: %b", what, s) // its runs would be gone through
		}
		if ok, e := robust.Robust(p); !ok || e != api.OK {
			t.Errorf("%s: Robust: %v, %d", what, ok, e)
		}
		if l := leastSets(t, p); !slices.Equal(l, []api.Set{0}) {
			t.Errorf("%s: Least: %b", what, l)
		}
	}
}

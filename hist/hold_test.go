package hist_test

import (
	"math"
	"slices"
	"testing"

	"weir/api"
	"weir/hist"
	"weir/prog"
	"weir/reduce"
	"weir/verdict"
)

// held is what Hold answers of what can be held against each other.
func held(t *testing.T, h api.Hist, x api.Test, allowed []api.Final) ([]api.Final, []api.Final) {
	t.Helper()
	strange, missed, e := hist.Hold(h, x, allowed)
	if e != api.OK {
		t.Fatalf("Hold(%s): %d", short(h, x, allowed), e)
	}
	return strange, missed
}

// notHeld tells which error Hold answers.
func notHeld(t *testing.T, what string, h api.Hist, x api.Test, allowed []api.Final, want api.Errno) {
	t.Helper()
	if a, b, e := hist.Hold(h, x, allowed); e != want || len(a) != 0 || len(b) != 0 {
		t.Errorf("Hold, %s: %v, %v, %d; want %d", what, a, b, e, want)
	}
}

// unfitting is lists that are not fitting for SB: those of wrong members, and those that don't rise.
func unfitting() map[string][]api.Final {
	m := wrongRuns()
	m["twice"] = []api.Final{of(0, 0, 1, 1), of(0, 0, 1, 1)}
	m["falling"] = []api.Final{of(0, 1, 1, 1), of(0, 0, 1, 1)}
	m["falling by its sign"] = []api.Final{of(0, 0, 1, 1), of(-1, 0, 1, 1)}
	return m
}

// 30.5: the test's error, then the set's, then that they are not of one test.
func TestHoldErrors(t *testing.T) {
	x := sb(t, "exists "+bothZero)
	for what, wrong := range wrongTests(t) {
		_, want := prog.Check(wrong)
		for _, l := range [][]api.Final{nil, four(), {of(1)}} {
			notHeld(t, what, seen(), wrong, l, want)
			notHeld(t, what, none(), wrong, l, want)
		}
	}
	for what, l := range unfitting() {
		notHeld(t, what, seen(), x, l, api.ErrSet)
		notHeld(t, what, none(), x, l, api.ErrSet)
		for other, h := range others() {
			notHeld(t, what+", "+other, h, x, l, api.ErrSet)
		}
	}
	for other, h := range others() {
		notHeld(t, other, h, x, four(), api.ErrTest)
		notHeld(t, other, h, x, nil, api.ErrTest)
	}
}

// 30.5: what a histogram with rows was looked at must be what the test looks at.
func TestHoldRefs(t *testing.T) {
	watching := sb(t, "locations [x;] exists "+bothZero)
	notHeld(t, "too few Refs", seen(), watching, four(), api.ErrTest)
	wider := seen()
	wider.Refs, wider.Rows = append(wider.Refs, loc("x")), []api.Row{row(3, 0, 0, 1), row(1, 0, 0, 2)}
	notHeld(t, "too many Refs", wider, sb(t, "exists "+bothZero), four(), api.ErrTest)
	strange, missed := held(t, wider, watching, four())
	if !slices.Equal(strange, []api.Final{of(0, 0, 2)}) || !slices.Equal(missed, []api.Final{of(0, 1, 1), of(1, 0, 1), of(1, 1, 1)}) {
		t.Errorf("Hold: %v, %v", strange, missed)
	}
	wider.Refs[2] = loc("y")
	notHeld(t, "another reference", wider, watching, four(), api.ErrTest)
	// Without rows nothing says what was looked at: what the test looks at counts.
	strange, missed = held(t, none(), watching, four())
	if len(strange) != 0 || !slices.Equal(missed, []api.Final{of(0, 0, 1), of(0, 1, 1), of(1, 0, 1), of(1, 1, 1)}) {
		t.Errorf("Hold of no rows: %v, %v", strange, missed)
	}
	strange, missed = held(t, seen(), sb(t, "exists "+bothZero), nil)
	if !slices.Equal(strange, []api.Final{of(0, 1), of(1, 0)}) || len(missed) != 0 {
		t.Errorf("Hold against nothing: %v, %v", strange, missed)
	}
	strange, missed = held(t, none(), watching, nil)
	if len(strange) != 0 || len(missed) != 0 {
		t.Errorf("Hold of no rows against nothing: %v, %v", strange, missed)
	}
}

// 30.5
func TestHold(t *testing.T) {
	roll := dice(305)
	some := [2]int{}
	for range 3000 {
		x := someTest(roll)
		p := progOf(t, x)
		runs := someRuns(roll, len(prog.Names(p)), pick(roll, []int{0, 1, 5, 40}))
		allowed := setOf(slices.Concat(runs[:roll(len(runs)+1)], someRuns(roll, len(prog.Names(p)), 5)))
		strange, missed := held(t, histOf(t, x, runs), x, allowed)
		was, may := saysParts(x, p, runs), saysParts(x, p, allowed)
		if !slices.Equal(strange, without(was, may)) || !slices.Equal(missed, without(may, was)) {
			t.Fatalf("Hold(%s): %v, %v; want %v, %v", short(x, runs, allowed), strange, missed, without(was, may), without(may, was))
		}
		some[0] += min(1, len(strange))
		some[1] += min(1, len(missed))
	}
	if min(some[0], some[1]) < 300 {
		t.Errorf("%v", some)
	}
}

// walk is the final state of a run that picks as it comes.
func walk(t *testing.T, roll func(int) int, m api.Machine) api.Final {
	t.Helper()
	s := m.Start
	for {
		if f, over := m.End(s); over {
			return f
		}
		next, ok := m.Step(s, pick(roll, m.Picks(s)))
		if !ok {
			t.Fatalf("a pick can't be done")
		}
		s = next
	}
}

// shapes is tests whose models allow unlike things.
func shapes(t *testing.T) []api.Test {
	t.Helper()
	return []api.Test{
		sb(t, "exists "+bothZero), sb(t, "locations [x; y;] forall ~"+bothZero), sb(t, "~exists true"), sb(t, "forall x=1"),
		parsed(t, `X86 MP { } P0 | P1 ; MOV [x],$1 | MOV EAX,[y] ; MOV [y],$1 | MOV EBX,[x] ; exists (1:EAX=1 /\ 1:EBX=0)`),
		parsed(t, `X86 add { 0:EAX=1; 1:EAX=1; } P0 | P1 ; LOCK XADD [x],EAX | LOCK XADD [x],EAX ; forall x=2`),
		parsed(t, `X86 W2 { } P0 | P1 ; MOV [x],$1 | MOV [y],$1 ; MOV [y],$2 | MOV [x],$2 ; ~exists (x=1 /\ y=1)`),
		parsed(t, `X86 SB+mfences { } P0 | P1 ; MOV [x],$1 | MOV [y],$1 ; MFENCE | MFENCE ; MOV EAX,[y] | MOV EAX,[x] ; exists (0:EAX=0 /\ 1:EAX=0)`),
	}
}

// 30.9: runs of each model's machine against what each model allows.
func TestRunsHeld(t *testing.T) {
	roll := dice(3091)
	strangers := 0
	for _, x := range shapes(t) {
		p := progOf(t, x)
		for kind := api.MSC; kind <= api.MPSO; kind++ {
			m, e := reduce.Full(kind, p)
			if e != api.OK {
				t.Fatalf("Full: %d", e)
			}
			var runs []api.Final
			for range 60 {
				runs = append(runs, walk(t, roll, m))
			}
			h := histOf(t, x, runs)
			for other := api.MSC; other <= api.MPSO; other++ {
				allowed, _, e := reduce.Finals(other, p, 1<<40)
				if e != api.OK {
					t.Fatalf("Finals: %d", e)
				}
				strange, _ := held(t, h, x, allowed)
				if other >= kind && len(strange) != 0 {
					t.Errorf("%s: runs of %d are strange to %d: %v", x.Name, kind, other, strange)
				}
				strangers += len(strange)
				// Where each allowed one is among the runs, nothing was not seen.
				if _, missed := held(t, histOf(t, x, slices.Concat(runs, allowed, runs)), x, allowed); len(missed) != 0 {
					t.Errorf("%s: %v is missed", x.Name, missed)
				}
			}
		}
	}
	if strangers == 0 {
		t.Errorf("no run of a weaker model is strange to a stronger one")
	}
}

// validated is what a histogram's log tells.
func validated(t *testing.T, h api.Hist) bool {
	t.Helper()
	n, k, e := hist.Counts(h)
	if e != api.OK {
		t.Fatalf("Counts(%s): %d", short(h), e)
	}
	return map[int]bool{api.Exists: n > 0, api.NotExists: n == 0, api.Forall: k == 0}[h.Quant]
}

// 30.10: as a set, the runs say the same.
func TestOk(t *testing.T) {
	roll := dice(3010)
	yes, no := [4]int{}, [4]int{}
	for range 3000 {
		x := someTest(roll)
		runs := someRuns(roll, len(prog.Names(progOf(t, x))), pick(roll, []int{0, 1, 5, 40}))
		h := histOf(t, x, runs)
		ok, e := verdict.Ok(x, setOf(runs))
		s := textOf(t, h)
		if e != api.OK || validated(t, h) != ok || tells(s) != ok {
			t.Fatalf("%s: Ok says %v, %d", s, ok, e)
		}
		if ok {
			yes[x.Quant]++
		} else {
			no[x.Quant]++
		}
	}
	if slices.Min(yes[1:]) < 200 || slices.Min(no[1:]) < 200 {
		t.Errorf("%v, %v", yes, no)
	}
}

// 30.5: of great counts nothing but the final states is seen.
func TestHoldCounts(t *testing.T) {
	x := sb(t, "exists "+bothZero)
	h := seen()
	h.Rows[0].Count = math.MaxInt64 - 1
	strange, missed := held(t, h, x, four()[:2])
	if !slices.Equal(strange, []api.Final{of(1, 0)}) || !slices.Equal(missed, []api.Final{of(0, 0)}) {
		t.Errorf("Hold: %v, %v", strange, missed)
	}
}

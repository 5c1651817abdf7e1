package hist_test

import (
	"math"
	"slices"
	"testing"

	"weir/api"
	"weir/hist"
	"weir/prog"
)

// notAdded tells which error Add answers, whichever is the first one.
func notAdded(t *testing.T, what string, a, b api.Hist, want api.Errno) {
	t.Helper()
	for _, c := range [][2]api.Hist{{a, b}, {b, a}} {
		if h, e := hist.Add(c[0], c[1]); e != want || !isZero(h) {
			t.Errorf("Add, %s: %v, %d; want %d", what, h, e, want)
		}
	}
}

// others is histograms that are right, and not of seen's test, by what is unlike.
func others() map[string]api.Hist {
	m := map[string]api.Hist{}
	add := func(what string, turn func(*api.Hist)) {
		for rows, h := range map[string]api.Hist{"": seen(), ", no rows": none(), ", great counts": seen()} {
			if rows == ", great counts" {
				h.Rows[0].Count = math.MaxInt64 - 1
			}
			turn(&h)
			m[what+rows] = h
		}
	}
	add("Name", func(h *api.Hist) { h.Name = "sb" })
	add("Quant", func(h *api.Hist) { h.Quant = api.Forall })
	add("a value of Cond", func(h *api.Hist) { h.Cond[1].Value = 1 })
	add("Cond, that says the same", func(h *api.Hist) { h.Cond = not(not(h.Cond, true), true) })
	add("Cond, the other way round", func(h *api.Hist) { h.Cond[0], h.Cond[1] = h.Cond[1], h.Cond[0] })
	add("Cond, true", func(h *api.Hist) { h.Cond = api.Cond{{Op: api.CTrue}} })
	return m
}

// 30.4
func TestAddErrors(t *testing.T) {
	for what, h := range others() {
		if !saysRight(h) {
			t.Fatalf("%s: it is not right", what)
		}
		notAdded(t, what, seen(), h, api.ErrTest)
		notAdded(t, what, none(), h, api.ErrTest)
	}
	wider := seen()
	wider.Refs, wider.Rows = append(wider.Refs, loc("x")), []api.Row{row(math.MaxInt64, 0, 0, 1)}
	notAdded(t, "other Refs, and too many", seen(), wider, api.ErrTest)
	a, b := seen(), seen()
	a.Cond, b.Cond = api.Cond{{Op: api.CTrue}}, api.Cond{{Op: api.CTrue}}
	for _, r := range []api.Ref{loc("EAX"), loc("x"), reg(1, "EBX"), reg(2, "EAX")} {
		b.Refs[1] = r
		notAdded(t, "as many other Refs", a, b, api.ErrTest)
	}
	for _, c := range [][2]api.Hist{{none(), wider}, {wider, none()}} {
		if h, e := hist.Add(c[0], c[1]); e != api.OK || !same(h, wider) {
			t.Errorf("Add, no rows and other Refs: %v, %d", h, e)
		}
	}
}

// 30.4: all counts together, whether they come to one row or not.
func TestAddBig(t *testing.T) {
	for _, r := range []api.Row{row(math.MaxInt64-3, 0, 1), row(math.MaxInt64-3, 1, 0), row(math.MaxInt64-3, -1, 7)} {
		h := seen()
		h.Rows = []api.Row{r}
		sum, e := hist.Add(h, seen())
		if e != api.OK {
			t.Errorf("Add to %v: %d", r, e)
		}
		hold(t, "a great sum", sum)
		h.Rows[0].Count++
		notAdded(t, "one too many", h, seen(), api.ErrBig)
		h.Rows[0].Count = math.MaxInt64
		notAdded(t, "many too many", h, seen(), api.ErrBig)
		notAdded(t, "twice as many", h, h, api.ErrBig)
		for _, c := range [][2]api.Hist{{none(), h}, {h, none()}} {
			if sum, e := hist.Add(c[0], c[1]); e != api.OK || !same(sum, h) {
				t.Errorf("Add of all and nothing: %v, %d", sum, e)
			}
		}
	}
	for n := range int64(8) { // of 2^62 and so many, and 2^62 - 4
		a, b := seen(), seen()
		a.Rows, b.Rows = []api.Row{row(1<<62+n, 0, 0)}, []api.Row{row(1<<62-8, 0, 0), row(4, 5, 5)}
		if sum, e := hist.Add(a, b); n < 4 && (e != api.OK || !slices.Equal(sum.Rows, []api.Row{row(1<<63-1-(7-n), 0, 0), row(4, 5, 5)})) {
			t.Errorf("Add: %v, %d", sum, e)
		}
		if n >= 4 {
			notAdded(t, "both halves", a, b, api.ErrBig)
		}
	}
}

// 30.4
func TestAdd(t *testing.T) {
	for _, c := range []struct{ a, b, want api.Hist }{
		{seen(), none(), seen()},
		{none(), seen(), seen()},
		{none(), none(), none()},
	} {
		if h, e := hist.Add(c.a, c.b); e != api.OK || !same(h, c.want) {
			t.Errorf("Add: %v, %d; want %v", h, e, c.want)
		}
	}
	a, b := seen(row(3, 5, 5)), seen()
	b.Rows = []api.Row{row(1, -1, 0), row(10, 0, 1), row(1, 1, -1), row(4, 5, 6)}
	if h, e := hist.Add(a, b); e != api.OK || !slices.Equal(h.Rows, []api.Row{row(1, -1, 0), row(12, 0, 1), row(1, 1, -1), row(1, 1, 0), row(3, 5, 5), row(4, 5, 6)}) {
		t.Errorf("Add: %v, %d", h, e)
	}
}

// added is what Add answers of two that can be added.
func added(t *testing.T, a, b api.Hist) api.Hist {
	t.Helper()
	h, e := hist.Add(a, b)
	if e != api.OK {
		t.Fatalf("Add(%s): %d", short(a, b), e)
	}
	return h
}

// 30.8, 30.4: runs put one behind the other, in three parts.
func TestSums(t *testing.T) {
	roll := dice(308)
	empty := 0
	for range 2000 {
		x := someTest(roll)
		p := progOf(t, x)
		runs := someRuns(roll, len(prog.Names(p)), pick(roll, []int{0, 2, 30}))
		i := roll(len(runs) + 1)
		k := i + roll(len(runs)-i+1)
		a, b, c := histOf(t, x, runs[:i]), histOf(t, x, runs[i:k]), histOf(t, x, runs[k:])
		want := saysOf(x, p, runs)
		for _, sum := range []api.Hist{
			added(t, added(t, a, b), c), added(t, a, added(t, b, c)), added(t, added(t, c, a), b), added(t, added(t, b, a), c), histOf(t, x, runs),
		} {
			if !same(sum, want) {
				t.Fatalf("Add of %s: %v; want %v", short(x, runs), sum, want)
			}
		}
		hold(t, "a sum", want)
		if len(a.Rows) == 0 != (len(b.Rows) == 0) {
			empty++
		}
	}
	if empty < 100 {
		t.Errorf("%d times one of both was empty", empty)
	}
}

// 30.8: histograms that are not of runs of any test.
func TestSumsOfHists(t *testing.T) {
	roll := dice(309)
	for range 2000 {
		a := someHist(roll)
		b, c := wide(a), wide(a)
		for i, r := range a.Rows {
			a.Rows[i].Count = 1 + r.Count>>2
			b.Rows[i].Count = 1 + r.Count>>3
			b.Rows[i].Final.V[0] ^= int64(min(a.Rows[0].Final.N, 1))
		}
		slices.SortFunc(b.Rows, func(r, s api.Row) int { return compareFinals(r.Final, s.Final) })
		c.Rows = c.Rows[:roll(len(c.Rows)+1)]
		for i := range c.Rows {
			c.Rows[i].Count = 1 + c.Rows[i].Count>>2
		}
		if len(c.Rows) == 0 {
			c.Refs = nil
		}
		want := added(t, added(t, a, b), c)
		hold(t, "a sum", want)
		for _, sum := range []api.Hist{added(t, a, added(t, b, c)), added(t, c, added(t, b, a)), added(t, added(t, c, b), a), added(t, b, added(t, c, a))} {
			if !same(sum, want) {
				t.Fatalf("Add of %s: %v; want %v", short(a, b, c), sum, want)
			}
		}
		for _, r := range want.Rows {
			if r.Count != countOf(a, r.Final)+countOf(b, r.Final)+countOf(c, r.Final) {
				t.Fatalf("Add of %s: %v", short(a, b, c), r)
			}
		}
	}
}

// countOf is how often a histogram says that a final state was seen.
func countOf(h api.Hist, f api.Final) int64 {
	for _, r := range h.Rows {
		if r.Final == f {
			return r.Count
		}
	}
	return 0
}

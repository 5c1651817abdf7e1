package reduce_test

import (
	"fmt"
	"slices"
	"testing"

	"weir/api"
	"weir/explore"
	"weir/reduce"
)

const enough = 1 << 20

// diamond holds 16.6 in a state; it answers how many pairs of picks there were.
func (w words) diamond(t *testing.T, m api.Machine, text string) int {
	t.Helper()
	s, pairs := stateOf(t, w.p, text), 0
	l := m.Picks(text)
	for _, k := range l {
		if ok, e := reduce.Local(w.model, w.p, s, k); e != api.OK {
			t.Fatalf("Local %v of %s: %d", k, w.name(s), e)
		} else if !ok {
			continue
		}
		behind, _ := m.Step(text, k)
		for _, other := range l {
			if other == k {
				continue
			}
			pairs++
			aside, _ := m.Step(text, other)
			one, ok := m.Step(behind, other)
			two, ok2 := m.Step(aside, k)
			if !ok || !ok2 || one != two {
				t.Fatalf("%v and %v in %s: %v, %v, %q, %q", k, other, w.name(s), ok, ok2, one, two)
			}
		}
	}
	return pairs
}

// smallProgs is programs that are gone through whole.
func smallProgs(t *testing.T, roll func(int) int, n int) []api.Prog {
	t.Helper()
	l := []api.Prog{
		sb(t), mp(t), bare(1), bare(4),
		of(t, "0:EAX=1; 1:EAX=1", "LOCK XADD [x],EAX", "LOCK XADD [x],EAX"),
		of(t, "0:EAX=1; 1:EBX=2", "MOV [y],$1; XCHG [x],EAX; MOV EBX,[y]", "MOV [x],$3; LOCK CMPXCHG [y],EBX; MFENCE"),
		of(t, "", "MOV [x],$1", "MOV [y],$1", "MOV EAX,[x]; MOV EBX,[y]", "MOV EAX,[y]; MOV EBX,[x]"),
	}
	for range n {
		threads := []string{someShape(roll, 1+roll(4)), someShape(roll, 1+roll(4))}
		if roll(3) == 0 {
			threads = []string{someShape(roll, roll(3)), someShape(roll, roll(3)), someShape(roll, roll(3))}
		}
		l = append(l, of(t, pick(roll, []string{"", "", "0:EAX=1; 1:EBX=2", "x=2"}), threads...))
	}
	return l
}

// 16.6: in the states to which small programs come, of each the first 2000.
func TestDiamond(t *testing.T) {
	roll := dice(166)
	pairs := map[int]int{}
	for _, p := range smallProgs(t, roll, 300) {
		for _, model := range models() {
			w := wordsOf(t, model, p)
			m, n := w.full(t), 0
			for text := range explore.States(m) {
				if n++; n > 2000 {
					break
				}
				pairs[model] += w.diamond(t, m, text)
			}
		}
	}
	for _, model := range models() {
		if pairs[model] < 300 {
			t.Errorf("%d pairs by model %d", pairs[model], model)
		}
	}
}

// 16.6: in unruly states, whether a run comes to them or not, full buffers among them.
func TestDiamondAnywhere(t *testing.T) {
	roll := dice(1661)
	pairs := map[int]int{}
	for _, p := range someProgs(t, roll, 200) {
		for _, model := range models() {
			w := wordsOf(t, model, p)
			m := w.full(t)
			for range 20 {
				pairs[model] += w.diamond(t, m, textOf(t, p, w.someProper(roll)))
			}
		}
	}
	for _, model := range models() {
		if pairs[model] < 1000 {
			t.Errorf("%d pairs by model %d", pairs[model], model)
		}
	}
}

// lesser tells whether a lean tally is no more than a full one.
func lesser(lean, full api.Tally) bool {
	return lean.States <= full.States && lean.Moves <= full.Moves && lean.Ends <= full.Ends
}

// 16.7, 16.8, W8: the same final states, no more of anything, no state that the full machine does not come to, none that sticks.
func TestNothingIsLost(t *testing.T) {
	roll := dice(167)
	fewer, weak := map[int]int{}, 0
	for _, p := range smallProgs(t, roll, 1500) {
		sizes := map[int]int{}
		for _, model := range models() {
			w := wordsOf(t, model, p)
			full := w.full(t)
			want, y, e := explore.Explore(full, enough)
			finals, tally, e2 := reduce.Finals(model, p, enough)
			if e != api.OK || e2 != api.OK || !slices.Equal(finals, want) {
				t.Fatalf("model %d of %v: %v, %d; want %v, %d", model, w.texts, finals, e2, want, e)
			}
			if !lesser(tally, y) || tally.Stuck != 0 {
				t.Fatalf("model %d of %v: %v; the full machine has %v", model, w.texts, tally, y)
			}
			if tally.States < y.States {
				fewer[model]++
			}
			sizes[model] = len(finals)
			known := map[string]int{}
			for text := range explore.States(full) {
				known[text]++
			}
			for text := range explore.States(w.made(t)) {
				if known[text] == 0 {
					t.Fatalf("model %d of %v: the full machine does not come to %s", model, w.texts, w.name(stateOf(t, p, text)))
				}
			}
		}
		if sizes[api.MPSO] > sizes[api.MTSO] || sizes[api.MTSO] > sizes[api.MSC] {
			weak++
		}
	}
	for _, model := range models() {
		if fewer[model] < 500 {
			t.Errorf("by model %d %d programs have fewer lean states", model, fewer[model])
		}
	}
	if weak < 40 {
		t.Errorf("%d programs come to more by a weaker model", weak)
	}
}

// The chapter's example 1.
func TestStoreBuffering(t *testing.T) {
	p := sb(t)
	w := wordsOf(t, api.MTSO, p)
	m := w.made(t)
	s := func(i int) api.Pick { return api.Pick{Thread: i, Kind: api.PStep} }
	f := func(i int) api.Pick { return api.Pick{Thread: i, Kind: api.PFlush} }
	for i := range 2 {
		if ok, e := reduce.Local(api.MTSO, p, start(t, p), s(i)); !ok || e != api.OK {
			t.Errorf("the store of %d is local: %v, %d", i, ok, e)
		}
	}
	text := m.Start
	for _, want := range [][]api.Pick{{s(0)}, {s(1)}, {s(0), f(0), s(1), f(1)}} {
		l := m.Picks(text)
		if !slices.Equal(l, want) {
			t.Fatalf("lean picks: %v; want %v", l, want)
		}
		text, _ = m.Step(text, l[0])
	}
	for model, want := range map[int]int{api.MSC: 3, api.MTSO: 4, api.MPSO: 4} {
		if l, y, e := reduce.Finals(model, p, enough); len(l) != want || y.Stuck != 0 || e != api.OK {
			t.Errorf("Finals by %d: %v, %v, %d", model, l, y, e)
		}
	}
}

// The chapter's example 2: who holds the lock goes on alone.
func TestLock(t *testing.T) {
	p := of(t, "", "XCHG [x],EAX", "XCHG [x],EAX")
	for _, model := range []int{api.MTSO, api.MPSO} {
		m := wordsOf(t, model, p).made(t)
		s := func(i int) api.Pick { return api.Pick{Thread: i, Kind: api.PStep} }
		f := func(i int) api.Pick { return api.Pick{Thread: i, Kind: api.PFlush} }
		text, ok := m.Start, true
		for _, c := range []struct {
			want []api.Pick
			take api.Pick
		}{
			{[]api.Pick{s(0), s(1)}, s(1)},
			{[]api.Pick{s(1)}, s(1)}, {[]api.Pick{f(1)}, f(1)}, {[]api.Pick{s(1)}, s(1)},
			{[]api.Pick{s(0)}, s(0)}, {[]api.Pick{s(0)}, s(0)}, {[]api.Pick{f(0)}, f(0)}, {[]api.Pick{s(0)}, s(0)},
		} {
			if l := m.Picks(text); !slices.Equal(l, c.want) {
				t.Fatalf("lean picks by %d: %v; want %v", model, l, c.want)
			}
			if text, ok = m.Step(text, c.take); !ok {
				t.Fatalf("%v by %d can't be done", c.take, model)
			}
		}
		if _, end := m.End(text); !end || len(m.Picks(text)) != 0 {
			t.Errorf("by %d it has not come to its end", model)
		}
	}
}

// The chapter's example 3, and other counts that are plain to see.
func TestCounts(t *testing.T) {
	for _, c := range []struct {
		threads []string
		model   int
		full    int
		lean    int
	}{
		{[]string{"MOV EAX,$1", "MOV EAX,$1", "MOV EAX,$1", "MOV EAX,$1"}, api.MSC, 16, 5},
		{[]string{"MOV EAX,$1", "MOV EAX,$1", "MOV EAX,$1", "MOV EAX,$1"}, api.MPSO, 16, 5},
		{[]string{"MFENCE; MOV EAX,EBX", "MOV EAX,$1; MFENCE"}, api.MTSO, 9, 5},
		// Stores: each has not begun, waits, or is done. Lean: both wait, then they are flushed in either order.
		{[]string{"MOV [x],$1", "MOV [y],$1"}, api.MTSO, 9, 6},
		{[]string{"MOV [x],$1", "MOV [y],$1"}, api.MPSO, 9, 6},
		{[]string{"MOV [x],$1", "MOV [y],$1"}, api.MSC, 4, 4},
		// By PSO one thread's two writes may leave either way.
		{[]string{"MOV [x],$1; MOV [y],$1"}, api.MTSO, 6, 5},
		{[]string{"MOV [x],$1; MOV [y],$1"}, api.MPSO, 7, 6},
		{[]string{"XCHG [x],EAX"}, api.MTSO, 5, 5},
		{[]string{""}, api.MTSO, 1, 1},
	} {
		p := of(t, "", c.threads...)
		_, lean, e := reduce.Finals(c.model, p, enough)
		_, full, e2 := explore.Explore(wordsOf(t, c.model, p).full(t), enough)
		if e != api.OK || e2 != api.OK || lean.States != c.lean || full.States != c.full {
			t.Errorf("%s by %d: %v of %v; want %d of %d", fmt.Sprint(c.threads), c.model, lean, full, c.lean, c.full)
		}
	}
}

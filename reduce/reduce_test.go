package reduce_test

import (
	"fmt"
	"math"
	"reflect"
	"slices"
	"testing"

	"weir/api"
	"weir/explore"
	"weir/prog"
	"weir/reduce"
	"weir/sc"
)

// refused asks whether all calls answer an error, and nothing beside it.
func refused(t *testing.T, model int, p api.Prog, s api.State, want api.Errno) {
	t.Helper()
	isZero := func(m api.Machine) bool {
		return m.Start == "" && m.Picks == nil && m.Step == nil && m.End == nil
	}
	if m, e := reduce.Full(model, p); e != want || !isZero(m) {
		t.Errorf("Full(%d, %.300s): %d; want %d", model, fmt.Sprint(p), e, want)
	}
	if m, e := reduce.Lean(model, p); e != want || !isZero(m) {
		t.Errorf("Lean(%d, %.300s): %d; want %d", model, fmt.Sprint(p), e, want)
	}
	if ok, e := reduce.Local(model, p, s, api.Pick{Kind: api.PStep}); e != want || ok {
		t.Errorf("Local(%d, %.300s): %v, %d; want %d", model, fmt.Sprint(p), ok, e, want)
	}
	for _, most := range []int{1000, 0, -1} {
		if l, y, e := reduce.Finals(model, p, most); e != want || len(l) != 0 || y != (api.Tally{}) {
			t.Errorf("Finals(%d, %.300s, %d): %v, %v, %d; want %d", model, fmt.Sprint(p), most, l, y, e, want)
		}
	}
}

// 16.1: first a model that is none, then a program that is not right; both ahead of a state that is none.
func TestRefused(t *testing.T) {
	wrong := wrongProgs(t)
	for _, model := range noModels() {
		refused(t, model, all(t), start(t, all(t)), api.ErrRange)
		refused(t, model, all(t), api.State{}, api.ErrRange)
		for _, p := range wrong {
			refused(t, model, p, api.State{}, api.ErrRange)
		}
	}
	for what, p := range wrong {
		if prog.Valid(p) == api.OK {
			t.Fatalf("%s: the program is right", what)
		}
		for _, model := range models() {
			refused(t, model, p, start(t, all(t)), prog.Valid(p))
			refused(t, model, p, api.State{}, prog.Valid(p))
		}
	}
}

// 16.2: states that are none of the program's, whatever is asked of them.
func TestLocalOfNoState(t *testing.T) {
	p := all(t)
	for what, twist := range twists() {
		s := start(t, p)
		twist(&s)
		for _, model := range models() {
			for _, k := range []api.Pick{{Kind: api.PStep}, {Thread: 2, Kind: api.PFlush, Loc: 1}, {}, {Thread: -1}, {Thread: math.MaxInt, Kind: api.PStep}} {
				if ok, e := reduce.Local(model, p, s, k); ok || e != api.ErrState {
					t.Errorf("Local %v of %s: %v, %d", k, what, ok, e)
				}
			}
		}
	}
}

// 16.1 to 16.3: all calls in unruly states, proper and not, at the start and at the end.
func TestAnywhere(t *testing.T) {
	roll := dice(161)
	for n, p := range someProgs(t, roll, 150) {
		for _, model := range models() {
			w := wordsOf(t, model, p)
			full, lean := w.full(t), w.made(t)
			if full.Start != w.own.Start || lean.Start != w.own.Start {
				t.Fatalf("model %d of %.300s starts at %q, %q", model, fmt.Sprint(p), full.Start, lean.Start)
			}
			l := w.near()
			if n < 8 {
				l = slices.Concat(l, somePicks())
			}
			last := w.someProper(roll)
			clear(last.Phase)
			clear(last.Buf)
			last.Lock = -1
			for i, ops := range p.Threads {
				last.PC[i] = len(ops)
			}
			states := []api.State{start(t, p), last}
			for range 6 {
				states = append(states, w.someProper(roll), w.someProper(roll), someState(roll, p))
			}
			for _, s := range states {
				w.holdLocal(t, s, l)
				w.holdFull(t, full, s, l)
				w.holdLean(t, lean, s, l)
			}
		}
	}
}

// 16.2, 16.3: one thread at each instruction, in each phase, whoever holds the lock, with and without writes that wait.
func TestEachInstruction(t *testing.T) {
	local := map[int]int{}
	for _, text := range []string{"MOV EAX,$1", "MOV EAX,EBX", "MOV EAX,[x]", "MOV [y],$2", "MOV [x],EBX", "MFENCE", "XCHG [x],EAX", "LOCK CMPXCHG [y],EBX", "LOCK XADD [x],EBX", ""} {
		for _, other := range []string{"LOCK XADD [y],EAX", "MOV EAX,[x]", "MOV EAX,$1", "MFENCE"} {
			p := of(t, "x=0; y=0; 0:EAX=3", text, other)
			for _, model := range models() {
				w := wordsOf(t, model, p)
				m, s := w.made(t), start(t, p)
				for at := range 2 * 3 * 3 * 3 * 9 {
					s.PC[0] = at % 2 * len(p.Threads[0])
					s.Phase[0], s.Phase[1] = at/2%3, at/6%3
					s.Lock = at/18%3 - 1
					some := [][]api.Write{nil, {{Loc: 1, Value: 5}}, {{Loc: 0, Value: 3}, {Loc: 1, Value: 4}}}
					s.Buf = [][]api.Write{some[at/54%3], some[at/162%3]}
					w.holdLocal(t, s, w.near())
					w.holdLean(t, m, s, w.near())
					if w.local(t, s, api.Pick{Kind: api.PStep}) || w.local(t, s, api.Pick{Kind: api.PFlush}) {
						local[model]++
					}
				}
			}
		}
	}
	for _, model := range models() {
		if local[model] < 12 {
			t.Errorf("by model %d thread 0 has a local pick %d times", model, local[model])
		}
	}
}

// 16.3: texts that are no state's.
func TestLeanOfNoState(t *testing.T) {
	p, roll, none := all(t), dice(163), 0
	for _, model := range models() {
		w := wordsOf(t, model, p)
		m := w.made(t)
		for range 1000 {
			b := []byte(textOf(t, p, someState(roll, p)))
			for range roll(3) {
				b[roll(len(b))] = byte(roll(256))
			}
			text := string(b[:len(b)-roll(3)])
			if _, e := sc.Read(p, text); e == api.OK {
				continue
			}
			none++
			for _, k := range w.near() {
				if next, ok := m.Step(text, k); next != "" || ok {
					t.Fatalf("Step %v of %q: %q %v", k, text, next, ok)
				}
			}
			f, end := m.End(text)
			if l := m.Picks(text); len(l) != 0 || f != (api.Final{}) || end {
				t.Fatalf("of %q: %v, %v %v", text, l, f, end)
			}
		}
	}
	if none < 1000 {
		t.Errorf("%d texts are no state's", none)
	}
}

// walk goes through the states to which the lean picks lead, and reckons all that Finals has to answer.
func (w words) walk(t *testing.T) (map[api.Final]int, api.Tally) {
	t.Helper()
	finals, seen, wait, y := map[api.Final]int{}, map[string]int{w.own.Start: 1}, []string{w.own.Start}, api.Tally{}
	for ; len(wait) > 0; y.States++ {
		text := wait[0]
		wait = wait[1:]
		l := w.lean(t, stateOf(t, w.p, text))
		f, end := w.own.End(text)
		if end {
			finals[f]++
			y.Ends++
		} else if len(l) == 0 {
			y.Stuck++
		}
		for _, k := range l {
			next, _ := w.own.Step(text, k)
			y.Moves++
			if seen[next]++; seen[next] == 1 {
				wait = append(wait, next)
			}
		}
	}
	return finals, y
}

// 16.4: Finals against the words, with as many states as there are, and with fewer.
func TestFinals(t *testing.T) {
	roll := dice(164)
	l := []api.Prog{sb(t), mp(t), bare(1), bare(4)}
	for range 60 {
		l = append(l, someProg(t, roll, 3, 3))
	}
	for _, p := range l {
		for _, model := range models() {
			w := wordsOf(t, model, p)
			want, y := w.walk(t)
			for _, most := range []int{y.States, y.States + 1, math.MaxInt} {
				finals, tally, e := reduce.Finals(model, p, most)
				if e != api.OK || tally != y || len(finals) != len(want) {
					t.Fatalf("Finals(%d, %v, %d): %v, %v, %d; want %v, %v", model, w.texts, most, finals, tally, e, want, y)
				}
				again, same, e := explore.Explore(w.made(t), most)
				if e != api.OK || same != y || !slices.Equal(again, finals) {
					t.Fatalf("Finals(%d, %v, %d): %v; Explore: %v, %v, %d", model, w.texts, most, finals, again, same, e)
				}
				for _, f := range finals {
					if want[f] == 0 {
						t.Fatalf("Finals(%d, %v) has %v; want %v", model, w.texts, f, want)
					}
				}
			}
			for _, most := range []int{y.States - 1, 0, -1, math.MinInt} {
				if finals, tally, e := reduce.Finals(model, p, most); e != api.ErrLong || len(finals) != 0 || tally != (api.Tally{}) {
					t.Fatalf("Finals(%d, %v, %d): %v, %v, %d; there are %d", model, w.texts, most, finals, tally, e, y.States)
				}
			}
		}
	}
}

// 16.5: what is handed in is not changed, a machine keeps nothing of it, and answers are new.
func TestMemory(t *testing.T) {
	roll := dice(165)
	for _, p := range someProgs(t, roll, 60) {
		for _, model := range models() {
			w := wordsOf(t, model, p)
			q, s := wide(p), wide(w.someProper(roll))
			before := whole(reflect.ValueOf(q)) + whole(reflect.ValueOf(s))
			full, e := reduce.Full(model, q)
			lean, e2 := reduce.Lean(model, q)
			if e != api.OK || e2 != api.OK {
				t.Fatalf("Full, Lean(%d, %.300s): %d, %d", model, fmt.Sprint(p), e, e2)
			}
			for _, k := range w.near() {
				if _, e := reduce.Local(model, q, s, k); e != api.OK {
					t.Fatalf("Local %v of %s: %d", k, w.name(s), e)
				}
			}
			reduce.Finals(model, q, 50)
			if after := whole(reflect.ValueOf(q)) + whole(reflect.ValueOf(s)); after != before {
				t.Fatalf("model %d: %.300s has become %.300s", model, before, after)
			}
			spoil(reflect.ValueOf(&q).Elem())
			for range 4 {
				s := w.someProper(roll)
				for _, m := range []api.Machine{full, lean} {
					l := m.Picks(textOf(t, p, s))
					spoil(reflect.ValueOf(&l).Elem())
				}
				w.holdFull(t, full, s, w.near())
				w.holdLean(t, lean, s, w.near())
			}
		}
	}
}

// 16.5: what Finals answers is new each time.
func TestFinalsMemory(t *testing.T) {
	p := sb(t)
	for _, model := range models() {
		first, _, _ := reduce.Finals(model, p, 1000)
		want := slices.Clone(first)
		for i, l := 0, first[:cap(first)]; i < len(l); i++ {
			l[i] = api.Final{N: 77}
		}
		if again, _, _ := reduce.Finals(model, p, 1000); !slices.Equal(again, want) {
			t.Errorf("Finals by %d: %v; want %v", model, again, want)
		}
	}
}

// R5: a machine may be asked by many at once.
func TestAtOnce(t *testing.T) {
	for _, model := range models() {
		m := wordsOf(t, model, all(t)).made(t)
		answers := make(chan api.Final)
		for k := range 8 {
			go func() {
				roll, text := dice(uint64(k%2)), m.Start
				for l := m.Picks(text); len(l) > 0; l = m.Picks(text) {
					text, _ = m.Step(text, pick(roll, l))
				}
				f, _ := m.End(text)
				answers <- f
			}()
		}
		seen := map[api.Final]int{}
		for range 8 {
			seen[<-answers]++
		}
		for f, n := range seen {
			if n%4 != 0 || f.N == 0 {
				t.Errorf("by model %d the same picks come to unlike ends: %d %v", model, n, f)
			}
		}
	}
}

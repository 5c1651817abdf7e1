package reduce_test

import (
	"fmt"
	"math"
	"slices"
	"strings"
	"testing"

	"weir/api"
	"weir/print"
	"weir/prog"
	"weir/pso"
	"weir/reduce"
	"weir/sc"
	"weir/tso"
)

func models() []int { return []int{api.MSC, api.MTSO, api.MPSO} }

func noModels() []int { return []int{0, -1, 4, 9, math.MinInt, math.MaxInt} }

// words is a program by a model, its instructions as texts: what the chapter says is said of these.
type words struct {
	model int
	p     api.Prog
	texts [][]string
	own   api.Machine // the model's, from its own layer
}

func wordsOf(t *testing.T, model int, p api.Prog) words {
	t.Helper()
	x, e := prog.Back(p)
	if e != api.OK {
		t.Fatalf("Back(%.300s): %d", fmt.Sprint(p), e)
	}
	w := words{model: model, p: p}
	for _, l := range x.Threads {
		var texts []string
		for _, in := range l {
			text, e := print.Instr(in)
			if e != api.OK {
				t.Fatalf("Instr(%v): %d", in, e)
			}
			texts = append(texts, text)
		}
		w.texts = append(w.texts, texts)
	}
	switch model {
	case api.MSC:
		w.own, e = sc.New(p)
	case api.MTSO:
		w.own, e = tso.New(p)
	case api.MPSO:
		w.own, e = pso.New(p)
	}
	if e != api.OK {
		t.Fatalf("no machine of %.300s: %d", fmt.Sprint(p), e)
	}
	return w
}

// next is a thread's next instruction; empty: it has none.
func (w words) next(s api.State, thread int) string {
	return append(slices.Clone(w.texts[thread]), "")[s.PC[thread]]
}

func isLocked(text string) bool {
	return strings.HasPrefix(text, "LOCK ") || strings.HasPrefix(text, "XCHG ")
}

// isStill tells whether an instruction names no location.
func isStill(text string) bool { return text != "" && !strings.Contains(text, "[") }

func isStore(text string) bool { return strings.HasPrefix(text, "MOV [") }

// can is what can be done in a state, in the machine's order.
func (w words) can(t *testing.T, s api.State) []api.Pick {
	t.Helper()
	var l []api.Pick
	e := api.OK
	switch w.model {
	case api.MSC:
		if s.Lock != -1 || slices.Max(s.Phase) > 0 || len(slices.Concat(s.Buf...)) > 0 {
			return nil
		}
		for i := range w.texts {
			if w.next(s, i) != "" {
				l = append(l, api.Pick{Thread: i, Kind: api.PStep})
			}
		}
	case api.MTSO:
		l, e = tso.Picks(w.p, s)
	case api.MPSO:
		l, e = pso.Picks(w.p, s)
	}
	if e != api.OK {
		t.Fatalf("Picks of %.300s: %d", fmt.Sprint(s), e)
	}
	return l
}

// local tells whether a pick can be done in a state and is local.
func (w words) local(t *testing.T, s api.State, k api.Pick) bool {
	t.Helper()
	if !slices.Contains(w.can(t, s), k) {
		return false
	}
	text := w.next(s, k.Thread)
	if w.model == api.MSC {
		return isStill(text)
	}
	return s.Lock == k.Thread || k.Kind == api.PStep && (isStill(text) || isStore(text))
}

// lean is the lean picks of a state.
func (w words) lean(t *testing.T, s api.State) []api.Pick {
	t.Helper()
	l := w.can(t, s)
	for _, k := range l {
		if w.local(t, s, k) {
			return []api.Pick{k}
		}
	}
	return l
}

// somePicks is picks of all kinds, right and wrong.
func somePicks() []api.Pick {
	var l []api.Pick
	for _, i := range []int{math.MinInt, -1, 0, 1, 2, 3, 4, math.MaxInt} {
		for _, kind := range []int{-1, 0, api.PStep, api.PFlush, 3} {
			for _, loc := range []int{math.MinInt, -1, 0, 1, 2, 15, 16, math.MaxInt} {
				l = append(l, api.Pick{Thread: i, Kind: kind, Loc: loc})
			}
		}
	}
	return l
}

// near is the picks that may be right in some state of a program, and a few others.
func (w words) near() []api.Pick {
	var l []api.Pick
	for i := range len(w.texts) + 1 {
		l = append(l, api.Pick{Thread: i, Kind: api.PStep}, api.Pick{Thread: i, Kind: api.PStep, Loc: 1})
		for loc := range len(w.p.Locs) + 1 {
			l = append(l, api.Pick{Thread: i, Kind: api.PFlush, Loc: loc})
		}
	}
	return l
}

func textOf(t *testing.T, p api.Prog, s api.State) string {
	t.Helper()
	text, e := sc.Code(p, s)
	if e != api.OK {
		t.Fatalf("Code(%.300s): %d", fmt.Sprint(s), e)
	}
	return text
}

func stateOf(t *testing.T, p api.Prog, text string) api.State {
	t.Helper()
	s, e := sc.Read(p, text)
	if e != api.OK {
		t.Fatalf("Read(%q): %d", text, e)
	}
	return s
}

// full is what Full answers.
func (w words) full(t *testing.T) api.Machine {
	t.Helper()
	m, e := reduce.Full(w.model, w.p)
	if e != api.OK || m.Picks == nil || m.Step == nil || m.End == nil {
		t.Fatalf("Full(%d, %.300s): %d", w.model, fmt.Sprint(w.p), e)
	}
	return m
}

// made is what Lean answers.
func (w words) made(t *testing.T) api.Machine {
	t.Helper()
	m, e := reduce.Lean(w.model, w.p)
	if e != api.OK || m.Picks == nil || m.Step == nil || m.End == nil {
		t.Fatalf("Lean(%d, %.300s): %d", w.model, fmt.Sprint(w.p), e)
	}
	return m
}

// name is a state, for those who read of it.
func (w words) name(s api.State) string {
	return fmt.Sprintf("model %d, %.300s in %.300s", w.model, fmt.Sprint(s), fmt.Sprint(w.texts))
}

// holdLocal holds Local against the words.
func (w words) holdLocal(t *testing.T, s api.State, l []api.Pick) {
	t.Helper()
	for _, k := range l {
		if ok, e := reduce.Local(w.model, w.p, s, k); e != api.OK || ok != w.local(t, s, k) {
			t.Fatalf("Local %v of %s: %v, %d", k, w.name(s), ok, e)
		}
	}
}

// holdFull holds a machine against the model's own.
func (w words) holdFull(t *testing.T, m api.Machine, s api.State, l []api.Pick) {
	t.Helper()
	text := textOf(t, w.p, s)
	if got := m.Picks(text); !slices.Equal(got, w.can(t, s)) {
		t.Fatalf("full Picks of %s: %v", w.name(s), got)
	}
	for _, k := range l {
		want, can := w.own.Step(text, k)
		if next, ok := m.Step(text, k); next != want || ok != can {
			t.Fatalf("full Step %v of %s: %q %v; want %q %v", k, w.name(s), next, ok, want, can)
		}
	}
	w.holdEnd(t, m, text)
}

// holdLean holds a lean machine against the words.
func (w words) holdLean(t *testing.T, m api.Machine, s api.State, l []api.Pick) {
	t.Helper()
	text, lean := textOf(t, w.p, s), w.lean(t, s)
	if got := m.Picks(text); !slices.Equal(got, lean) {
		t.Fatalf("lean Picks of %s: %v; want %v", w.name(s), got, lean)
	}
	for _, k := range l {
		want, can := "", slices.Contains(lean, k)
		if can {
			want, can = w.own.Step(text, k)
		}
		if next, ok := m.Step(text, k); next != want || ok != can {
			t.Fatalf("lean Step %v of %s: %q %v; want %q %v", k, w.name(s), next, ok, want, can)
		}
	}
	w.holdEnd(t, m, text)
}

func (w words) holdEnd(t *testing.T, m api.Machine, text string) {
	t.Helper()
	want, end := w.own.End(text)
	if f, ok := m.End(text); f != want || ok != end {
		t.Fatalf("End of %q: %v %v; want %v %v", text, f, ok, want, end)
	}
}

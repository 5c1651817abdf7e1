package tso_test

import (
	"fmt"
	"math"
	"slices"
	"strconv"
	"strings"
	"testing"

	"weir/api"
	"weir/litmus"
	"weir/print"
	"weir/prog"
	"weir/sc"
	"weir/tso"
)

// words is a program whose instructions are texts: what the chapter says is said of these.
type words struct {
	p     api.Prog
	texts [][]string
}

func wordsOf(t *testing.T, p api.Prog) words {
	t.Helper()
	x, e := prog.Back(p)
	if e != api.OK {
		t.Fatalf("Back(%.300s): %d", fmt.Sprint(p), e)
	}
	w := words{p: p}
	for _, l := range x.Threads {
		var texts []string
		for _, in := range l {
			text, e := print.Instr(in)
			if e != api.OK {
				t.Fatalf("Instr(%v): %d", in, e)
			}
			texts = append(texts, text)
		}
		w.texts = append(w.texts, texts)
	}
	return w
}

// next is a thread's next instruction; empty: it has none.
func (w words) next(s api.State, thread int) string {
	return append(slices.Clone(w.texts[thread]), "")[s.PC[thread]]
}

func isLocked(text string) bool {
	return strings.HasPrefix(text, "LOCK ") || strings.HasPrefix(text, "XCHG ")
}

func (w words) proper(s api.State) bool {
	none := make([]int, len(w.p.Threads))
	if s.Lock == -1 {
		return slices.Equal(s.Phase, none)
	}
	for _, phase := range []int{1, 2} {
		one := slices.Clone(none)
		one[s.Lock] = phase
		if slices.Equal(s.Phase, one) && isLocked(w.next(s, s.Lock)) {
			return true
		}
	}
	return false
}

func (w words) sees(s api.State, thread, loc int) int64 {
	for k := len(s.Buf[thread]) - 1; k >= 0; k-- {
		if s.Buf[thread][k].Loc == loc {
			return s.Buf[thread][k].Value
		}
	}
	return s.Mem[loc]
}

func (w words) done(s api.State) bool {
	for i := range w.texts {
		if w.next(s, i) != "" || len(s.Buf[i]) > 0 {
			return false
		}
	}
	return w.proper(s)
}

// picks is all that can be done, found by trying.
func (w words) picks(s api.State) []api.Pick {
	var l []api.Pick
	for i := range w.texts {
		for _, kind := range []int{api.PStep, api.PFlush} {
			k := api.Pick{Thread: i, Kind: kind}
			if _, ok := w.behind(s, k); ok {
				l = append(l, k)
			}
		}
	}
	return l
}

// behind is the state behind a pick, if it can be done.
func (w words) behind(s api.State, k api.Pick) (api.State, bool) {
	if !w.proper(s) || k.Loc != 0 || k.Thread < 0 || k.Thread >= len(w.texts) {
		return api.State{}, false
	}
	s = evenState(s)
	i := k.Thread
	ok := false
	switch k.Kind {
	case api.PStep:
		ok = w.obey(&s, i, w.next(s, i))
	case api.PFlush:
		ok = len(s.Buf[i]) > 0 && (s.Lock == -1 || s.Lock == i)
		if ok {
			s.Mem[s.Buf[i][0].Loc] = s.Buf[i][0].Value
			s.Buf[i] = slices.Delete(s.Buf[i], 0, 1)
		}
	}
	if !ok || len(s.Buf[i]) > 64 {
		return api.State{}, false
	}
	return s, true
}

// get is what an operand has for a thread.
func (w words) get(s api.State, thread int, operand string) int64 {
	if digits, ok := strings.CutPrefix(operand, "$"); ok {
		v, err := strconv.ParseInt(digits, 10, 64)
		if err != nil {
			panic(err)
		}
		return v
	}
	if operand[0] == '[' {
		return w.sees(s, thread, slices.Index(w.p.Locs, operand[1:len(operand)-1]))
	}
	return s.Regs[thread][slices.Index(w.p.Regs[thread], operand)]
}

// put gives an operand a value: a register at once, a location by a write that waits.
func (w words) put(s *api.State, thread int, operand string, v int64) {
	if operand[0] == '[' {
		s.Buf[thread] = append(s.Buf[thread], api.Write{Loc: slices.Index(w.p.Locs, operand[1:len(operand)-1]), Value: v})
		return
	}
	s.Regs[thread][slices.Index(w.p.Regs[thread], operand)] = v
}

// obey does the next small step of an instruction; false: it can't be done.
func (w words) obey(s *api.State, i int, text string) bool {
	if isLocked(text) {
		return w.obeyLocked(s, i, strings.TrimPrefix(text, "LOCK "))
	}
	word, rest, _ := strings.Cut(text, " ")
	a, b, _ := strings.Cut(rest, ",")
	switch word {
	case "":
		return false
	case "MFENCE":
		if len(s.Buf[i]) > 0 {
			return false
		}
	case "MOV":
		if b[0] == '[' && s.Lock != -1 && s.Lock != i {
			return false
		}
		w.put(s, i, a, w.get(*s, i, b))
	default:
		panic(text)
	}
	s.PC[i]++
	return true
}

func (w words) obeyLocked(s *api.State, i int, text string) bool {
	word, rest, _ := strings.Cut(text, " ")
	loc, reg, _ := strings.Cut(rest, ",")
	switch s.Phase[i] {
	case 0:
		if s.Lock != -1 {
			return false
		}
		s.Lock, s.Phase[i] = i, 1
	case 1:
		v, r := w.get(*s, i, loc), w.get(*s, i, reg)
		switch {
		case word == "XCHG":
			w.put(s, i, loc, r)
			w.put(s, i, reg, v)
		case word == "XADD":
			w.put(s, i, loc, v+r)
			w.put(s, i, reg, v)
		case v == w.get(*s, i, "EAX"):
			w.put(s, i, loc, r)
		default:
			w.put(s, i, "EAX", v)
		}
		s.Phase[i] = 2
	case 2:
		if len(s.Buf[i]) > 0 {
			return false
		}
		s.Lock, s.Phase[i] = -1, 0
		s.PC[i]++
	}
	return true
}

// somePicks is picks of all kinds, right and wrong.
func somePicks() []api.Pick {
	var l []api.Pick
	for _, i := range []int{math.MinInt, -1, 0, 1, 2, 3, 4, math.MaxInt} {
		for _, kind := range []int{0, api.PStep, api.PFlush, 3} {
			for _, loc := range []int{-1, 0, 1} {
				l = append(l, api.Pick{Thread: i, Kind: kind, Loc: loc})
			}
		}
	}
	return l
}

// nearPicks is the picks of few threads that may be right.
func nearPicks() []api.Pick { return []api.Pick{stepOf(0), flushOf(0), stepOf(1), flushOf(1)} }

// hold holds all that is asked of a state against the words, steps by some picks.
func (w words) hold(t *testing.T, s api.State, some []api.Pick) {
	t.Helper()
	name := func() string { return fmt.Sprintf("%.300s in %.300s", fmt.Sprint(s), fmt.Sprint(w.texts)) }
	want := w.picks(s)
	if l, e := tso.Picks(w.p, s); e != api.OK || !slices.Equal(l, want) {
		t.Fatalf("Picks of %s: %v, %d; want %v", name(), l, e, want)
	}
	if ok, e := tso.Done(w.p, s); e != api.OK || ok != w.done(s) {
		t.Fatalf("Done of %s: %v, %d", name(), ok, e)
	}
	for _, k := range some {
		next, e := tso.Step(w.p, s, k)
		right, ok := w.behind(s, k)
		if ok != slices.Contains(want, k) {
			t.Fatalf("the words are at odds about %v in %s", k, name())
		}
		if !ok && (e != api.ErrPick || !isZero(next)) || ok && (e != api.OK || !sameState(next, right)) {
			t.Fatalf("Step %v of %s: %.300s, %d; want %.300s %v", k, name(), fmt.Sprint(next), e, fmt.Sprint(right), ok)
		}
	}
	for i := range w.texts {
		for loc := range w.p.Locs {
			if v, e := tso.See(w.p, s, i, loc); e != api.OK || v != w.sees(s, i, loc) {
				t.Fatalf("See %d %d of %s: %d, %d", i, loc, name(), v, e)
			}
		}
	}
}

// of is the program of a file's settings and rows.
func of(t *testing.T, settings, rows string) api.Prog {
	t.Helper()
	threads := strings.Count(strings.SplitN(rows, ";", 2)[0], "|") + 1
	head := "P0"
	for i := 1; i < threads; i++ {
		head += fmt.Sprint("|P", i)
	}
	x, err := litmus.Parse("X86 t {" + settings + "} " + head + ";" + rows + "; exists true")
	if err != nil {
		t.Fatalf("%s: %v", rows, err)
	}
	p, e := prog.Of(x)
	if e != api.OK {
		t.Fatalf("%s: %d", rows, e)
	}
	return p
}

// start is a program's start.
func start(t *testing.T, p api.Prog) api.State {
	t.Helper()
	s, e := sc.Start(p)
	if e != api.OK {
		t.Fatalf("Start(%.300s): %d", fmt.Sprint(p), e)
	}
	return s
}

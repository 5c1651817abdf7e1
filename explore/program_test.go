package explore_test

import (
	"fmt"
	"maps"
	"slices"
	"strings"
	"testing"

	"weir/api"
	"weir/explore"
	"weir/litmus"
	"weir/odo"
	"weir/prog"
	"weir/pso"
	"weir/sc"
	"weir/state"
	"weir/tso"
)

// of is the program of threads, each a list of instructions with ; between them, and of settings.
func of(t *testing.T, settings string, threads ...string) api.Prog {
	t.Helper()
	x := api.Test{}
	for _, texts := range threads {
		var l []api.Instr
		for _, text := range strings.FieldsFunc(texts, func(r rune) bool { return r == ';' }) {
			in, err := litmus.Instruction(text)
			if err != nil {
				t.Fatalf("%s: %v", text, err)
			}
			l = append(l, in)
		}
		x.Threads = append(x.Threads, l)
	}
	some, err := litmus.Parse("X86 t {" + settings + "} P0; exists true")
	if err != nil {
		t.Fatalf("%s: %v", settings, err)
	}
	x.Name, x.Inits, x.Quant, x.Cond = some.Name, some.Inits, some.Quant, some.Cond
	p, e := prog.Of(x)
	if e != api.OK {
		t.Fatalf("%v: %d", threads, e)
	}
	return p
}

// machines is a program's machines, by their names.
func machines(t *testing.T, p api.Prog) map[string]api.Machine {
	t.Helper()
	all := map[string]api.Machine{}
	for name, build := range map[string]func(api.Prog) (api.Machine, api.Errno){"sc": sc.New, "tso": tso.New, "pso": pso.New} {
		m, e := build(p)
		if e != api.OK {
			t.Fatalf("%s of %.300s: %d", name, fmt.Sprint(p), e)
		}
		all[name] = m
	}
	return all
}

const sb0, sb1 = "MOV [x],$1; MOV EAX,[y]", "MOV [y],$1; MOV EAX,[x]"

// some is a thread of unruly instructions; one in three is a store and a load, which x86-TSO may turn round.
func some(roll func(int) int, longest int) string {
	if roll(3) == 0 {
		return pick(roll, []string{"MOV [x],$1; MOV EAX,[y]", "MOV [y],$1; MOV EAX,[x]", "MOV [x],$2; MOV [y],$2; MOV EBX,[x]"})
	}
	var l []string
	for range roll(longest + 1) {
		l = append(l, pick(roll, []string{
			"MOV [x],$1", "MOV [y],$1", "MOV [x],$2", "MOV [y],EAX", "MOV [x],EBX", "MOV EAX,[x]", "MOV EAX,[y]", "MOV EBX,[x]", "MOV EBX,[y]",
			"MOV EAX,$1", "MOV EBX,EAX", "MFENCE", "XCHG [x],EAX", "LOCK XADD [y],EBX", "LOCK CMPXCHG [x],EBX",
		}))
	}
	return strings.Join(l, ";")
}

// somePrograms is SB, a few others, and unruly ones.
func somePrograms(t *testing.T, roll func(int) int, n int) []api.Prog {
	t.Helper()
	l := []api.Prog{
		of(t, "", sb0, sb1),
		of(t, "", ""),
		of(t, "", "", "", "", ""),
		of(t, "0:EAX=1; 1:EAX=1", "LOCK XADD [x],EAX", "LOCK XADD [x],EAX"),
		of(t, "", "MOV [x],$1; MOV [y],$1", "MOV EAX,[y]; MOV EBX,[x]"),
	}
	for range n {
		threads := []string{some(roll, 4), some(roll, 4)}
		if roll(3) == 0 {
			threads = []string{some(roll, 2), some(roll, 2), some(roll, 2)}
		}
		l = append(l, of(t, "", threads...))
	}
	return l
}

// enough is more states than these programs have.
const enough = 1 << 20

// 14.2, 14.5: the chapter's example 4, and the examples 4 and 5 of the document.
func TestPrograms(t *testing.T) {
	for _, c := range []struct {
		p      api.Prog
		finals map[string]int
		runs   uint64
	}{
		{of(t, "", sb0, sb1), map[string]int{"sc": 3, "tso": 4, "pso": 4}, 6},
		{of(t, "", "MOV [x],$1; MOV [y],$1", "MOV EAX,[y]; MOV EBX,[x]"), map[string]int{"sc": 3, "tso": 3, "pso": 4}, 6},
		{of(t, "0:EAX=1; 1:EAX=1", "LOCK XADD [x],EAX", "LOCK XADD [x],EAX"), map[string]int{"sc": 2, "tso": 2, "pso": 2}, 2},
	} {
		for name, m := range machines(t, c.p) {
			l, tally, e := explore.Explore(m, enough)
			if e != api.OK || len(l) != c.finals[name] || tally.Stuck != 0 {
				t.Errorf("Explore of %v by %s: %d, %v, %d", c.p, name, len(l), tally, e)
			}
			if n, e := explore.Runs(m, enough); name == "sc" && (n != c.runs || e != api.OK) {
				t.Errorf("Runs of %v by %s: %d, %d", c.p, name, n, e)
			}
		}
	}
	// x86-TSO, MOV [x],$1 in each of two threads: each has not begun, waits, or is done; x tells who came last.
	m := machines(t, of(t, "", "MOV [x],$1", "MOV [x],$2"))["tso"]
	l, tally, e := explore.Explore(m, enough)
	if e != api.OK || !slices.Equal(l, []api.Final{valued(1), valued(2)}) || tally != (api.Tally{States: 10, Moves: 12, Ends: 2}) {
		t.Errorf("Explore of two stores: %v, %v, %d", l, tally, e)
	}
}

// chartOf is all that is come to from the start, whatever is picked, as a chart.
func chartOf(t *testing.T, m api.Machine) chart {
	t.Helper()
	numbers := map[string]int{m.Start: 0}
	texts := []string{m.Start}
	var c chart
	for at := 0; at < len(texts); at++ {
		n := node{text: texts[at]}
		n.final, n.end = m.End(n.text)
		for _, k := range m.Picks(n.text) {
			next, ok := m.Step(n.text, k)
			if !ok {
				t.Fatalf("the pick %v of %q can't be done", k, n.text)
			}
			if _, had := numbers[next]; !had {
				numbers[next] = len(texts)
				texts = append(texts, next)
			}
			n.picks = append(n.picks, lead(numbers[next], 0))
		}
		c = append(c, n)
	}
	return c
}

// 14.1 to 14.6: machines of programs, held against the words of what is come to.
func TestProgramCharts(t *testing.T) {
	for _, p := range somePrograms(t, dice(143), 0) {
		for name, m := range machines(t, p) {
			c := chartOf(t, m)
			tally, finals := c.saysTally(), c.saysFinals()
			if l, y, e := explore.Explore(m, len(c)); e != api.OK || y != tally || !slices.Equal(l, finals) {
				t.Errorf("Explore of %v by %s: %v, %v, %d; want %v, %v", p, name, l, y, e, finals, tally)
			}
			runs, _ := c.saysRuns()
			if n, e := explore.Runs(m, len(c)); e != api.OK || n != runs {
				t.Errorf("Runs of %v by %s: %d, %d; want %d", p, name, n, e, runs)
			}
			ways, e := explore.Ways(m, len(c))
			for i, w := range c.saysWays() {
				if e != api.OK || len(ways) != len(finals) || ways[i].Final != w.Final || len(ways[i].Picks) != len(w.Picks) {
					t.Fatalf("Ways of %v by %s: %v, %d; want %v", p, name, ways, e, w)
				}
			}
			if _, _, e := explore.Explore(m, len(c)-1); e != api.ErrLong {
				t.Errorf("Explore of %v by %s, at most %d of %d: %d", p, name, len(c)-1, len(c), e)
			}
		}
	}
}

// 14.7: whatever is picked, one is at a reachable state; the end to which one comes is in the set.
func TestWhateverIsPicked(t *testing.T) {
	roll := dice(147)
	var all []api.Machine
	for _, p := range somePrograms(t, roll, 60) {
		all = slices.AppendSeq(all, maps.Values(machines(t, p)))
	}
	for range 200 {
		all = append(all, someChart(roll, 9).machine())
	}
	for _, m := range all {
		reachable := map[string]int{}
		for text, depth := range explore.States(m) {
			reachable[text] = depth
		}
		set, _, e := explore.Explore(m, enough)
		if e != api.OK {
			t.Fatalf("Explore: %d", e)
		}
		for range 20 {
			text := m.Start
			for n := range 50 {
				if depth, ok := reachable[text]; !ok || depth > n {
					t.Fatalf("behind %d picks one is at %q, %v", n, text, ok)
				}
				if f, end := m.End(text); end && state.Check(f) == api.OK && !slices.Contains(set, f) {
					t.Fatalf("one comes to the end %v; the set is %v", f, set)
				}
				l := m.Picks(text)
				if len(l) == 0 {
					break
				}
				if next, ok := m.Step(text, pick(roll, l)); ok {
					text = next
				}
			}
		}
	}
}

// 14.8: the picks of Ways lead to their final states, and none that are fewer do.
func TestShortest(t *testing.T) {
	roll := dice(148)
	var all []api.Machine
	for _, p := range somePrograms(t, roll, 60) {
		all = slices.AppendSeq(all, maps.Values(machines(t, p)))
	}
	for range 200 {
		all = append(all, someChart(roll, 9).machine())
	}
	for _, m := range all {
		least := map[api.Final]int{}
		for text, depth := range explore.States(m) {
			if f, end := m.End(text); end {
				if _, had := least[f]; !had {
					least[f] = depth
				}
				least[f] = min(least[f], depth)
			}
		}
		l, e := explore.Ways(m, enough)
		if e != api.OK {
			t.Fatalf("Ways: %d", e)
		}
		for _, w := range l {
			text, ok := m.Start, true
			for _, k := range w.Picks {
				if text, ok = m.Step(text, k); !ok {
					t.Fatalf("the pick %v can't be done", k)
				}
			}
			if f, end := m.End(text); !end || f != w.Final || len(w.Picks) != least[f] {
				t.Fatalf("%d picks lead to %v %v; want %v, by %d", len(w.Picks), f, end, w.Final, least[w.Final])
			}
		}
	}
}

// weaves is how many weaves a program's threads have.
func weaves(t *testing.T, p api.Prog) (uint64, api.Errno) {
	t.Helper()
	var lengths []int
	for _, l := range p.Threads {
		lengths = append(lengths, len(l))
	}
	w, e := odo.Weaves(lengths)
	if e != api.OK {
		t.Fatalf("Weaves(%v): %d", lengths, e)
	}
	return w.Len()
}

// 14.9: sequential consistency's final states are x86-TSO's, its runs are the weaves, and nobody is stuck.
func TestBothMachines(t *testing.T) {
	more := 0
	for _, p := range somePrograms(t, dice(149), 400) {
		all := machines(t, p)
		plain, first, e := explore.Explore(all["sc"], enough)
		weak, second, e2 := explore.Explore(all["tso"], enough)
		if e != api.OK || e2 != api.OK || first.Stuck != 0 || second.Stuck != 0 || len(plain) == 0 {
			t.Fatalf("Explore of %.300s: %v, %d, %v, %d", fmt.Sprint(p), first, e, second, e2)
		}
		if rest, e := state.Minus(plain, weak); e != api.OK || len(rest) != 0 {
			t.Fatalf("%.300s: x86-TSO does not come to %v", fmt.Sprint(p), rest)
		}
		if len(weak) > len(plain) {
			more++
		}
		want, few := weaves(t, p)
		if n, e := explore.Runs(all["sc"], enough); e != api.OK || few != api.OK || n != want {
			t.Fatalf("Runs of %.300s: %d, %d; want %d", fmt.Sprint(p), n, e, want)
		}
	}
	if more < 5 {
		t.Errorf("%d programs come to more by x86-TSO", more)
	}
}

// 14.9: as many weaves as a number has room for, and more.
func TestManyWeaves(t *testing.T) {
	counted, refused := 0, 0
	for _, c := range [][]int{{60}, {30, 30}, {32, 32}, {14, 14, 14}, {15, 14, 14}, {15, 15, 14}, {15, 15, 15}, {20, 20, 20}, {9, 9, 9, 9}, {10, 10, 10, 9}, {10, 10, 10, 10}, {11, 11, 11, 11}} {
		var threads []string
		for _, n := range c {
			threads = append(threads, strings.Repeat("MOV EAX,$1;", n))
		}
		p := of(t, "", threads...)
		want, err := weaves(t, p)
		if n, e := explore.Runs(machines(t, p)["sc"], enough); n != want || e != err {
			t.Errorf("Runs of threads of %v: %d, %d; want %d, %d", c, n, e, want, err)
		}
		if err == api.OK {
			counted++
		} else {
			refused++
		}
	}
	if counted < 3 || refused < 3 {
		t.Errorf("%d were counted, %d refused", counted, refused)
	}
}

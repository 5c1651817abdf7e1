package race_test

import (
	"fmt"
	"math"
	"slices"
	"strings"
	"testing"

	"weir/api"
	"weir/explore"
	"weir/print"
	"weir/prog"
	"weir/reduce"
	"weir/sc"
)

// line is an instruction as a text, and its place: what the chapter says is said of these.
type line struct {
	thread, number int
	text           string
}

// linesOf is a program's instructions, thread by thread.
func linesOf(t *testing.T, p api.Prog) [][]line {
	t.Helper()
	x, e := prog.Back(p)
	if e != api.OK {
		t.Fatalf("Back(%.300s): %d", told(p), e)
	}
	all := make([][]line, len(x.Threads))
	for i, thread := range x.Threads {
		for k, in := range thread {
			text, e := print.Instr(in)
			if e != api.OK {
				t.Fatalf("Instr(%v): %d", in, e)
			}
			all[i] = append(all[i], line{i, k, text})
		}
	}
	return all
}

// loc is the location that an instruction touches; empty: none.
func (x line) loc() string {
	_, behind, _ := strings.Cut(x.text, "[")
	loc, _, _ := strings.Cut(behind, "]")
	return loc
}

func (x line) stores() bool { return strings.HasPrefix(x.text, "MOV [") }

func (x line) loads() bool {
	return strings.HasPrefix(x.text, "MOV ") && strings.HasSuffix(x.text, "]")
}

func (x line) locked() bool {
	return strings.HasPrefix(x.text, "XCHG ") || strings.HasPrefix(x.text, "LOCK ")
}

func (x line) where() api.Where { return api.Where{Part: api.WInstr, I: x.thread, K: x.number} }

// conflict tells whether two instructions, both next, are a race in the state.
func conflict(a, b line) bool {
	return a.loc() != "" && a.loc() == b.loc() && (!a.loads() || !b.loads()) && (!a.locked() || !b.locked())
}

// behindStore tells whether, in a load's thread, ahead of it, there is a store behind which, up to the load, there is no fence and nothing locked.
func behindStore(lines [][]line, b line) bool {
	for n, a := range lines[b.thread][:b.number] {
		stops := func(x line) bool { return x.text == "MFENCE" || x.locked() }
		if a.stores() && !slices.ContainsFunc(lines[b.thread][n+1:b.number], stops) {
			return true
		}
	}
	return false
}

// raceBy is two instructions as a race, a of the lower thread.
func raceBy(lines [][]line, a, b line) api.Race {
	return api.Race{A: a.where(), B: b.where(), Triangle: a.loads() && !b.loads() && behindStore(lines, a) || b.loads() && !a.loads() && behindStore(lines, b)}
}

// textRaces is the races that a program's text has, as if each two instructions of unlike threads were next in some state. The order of the loops is that of the races.
func textRaces(lines [][]line) []api.Race {
	var l []api.Race
	for i := range lines {
		for _, a := range lines[i] {
			for k := i + 1; k < len(lines) && a.loc() != ""; k++ {
				for _, b := range lines[k] {
					if conflict(a, b) {
						l = append(l, raceBy(lines, a, b))
					}
				}
			}
		}
	}
	return l
}

// stateRaces is the races in all states of a program, each of which the machine of sequential consistency comes to.
func stateRaces(t *testing.T, p api.Prog) []api.Race {
	t.Helper()
	lines, seen := linesOf(t, p), map[string]api.Race{}
	for text := range explore.States(machine(t, p)) {
		pc := placesOf(t, p, text)
		for i := range lines {
			for k := i + 1; k < len(lines); k++ {
				if pc[i] == len(lines[i]) || pc[k] == len(lines[k]) {
					continue
				}
				if a, b := lines[i][pc[i]], lines[k][pc[k]]; conflict(a, b) {
					seen[fmt.Sprintf("%2d %5d %2d %5d", i, pc[i], k, pc[k])] = raceBy(lines, a, b)
				}
			}
		}
	}
	var names []string
	for name := range seen {
		names = append(names, name)
	}
	slices.Sort(names)
	var l []api.Race
	for _, name := range names {
		l = append(l, seen[name])
	}
	return l
}

func machine(t *testing.T, p api.Prog) api.Machine {
	t.Helper()
	m, e := sc.New(p)
	if e != api.OK {
		t.Fatalf("sc.New(%.300s): %d", told(p), e)
	}
	return m
}

// placesOf is the numbers of the threads' next instructions in a state.
func placesOf(t *testing.T, p api.Prog, text string) []int {
	t.Helper()
	s, e := sc.Read(p, text)
	if e != api.OK {
		t.Fatalf("sc.Read(%.300s, %q): %d", told(p), text, e)
	}
	return s.PC
}

// firstWay is the first shortest way of the machine to a state in which both instructions are next.
func firstWay(t *testing.T, p api.Prog, r api.Race) []api.Pick {
	t.Helper()
	l, e := explore.Way(machine(t, p), math.MaxInt, func(text string) bool {
		pc := placesOf(t, p, text)
		return pc[r.A.I] == r.A.K && pc[r.B.I] == r.B.K
	})
	if e != api.OK {
		t.Fatalf("explore.Way of %.300s to %v: %d", told(p), r, e)
	}
	return l
}

// runLines is the instructions that a list of picks does; false: it is no run.
func runLines(t *testing.T, p api.Prog, picks []api.Pick) ([]line, bool) {
	t.Helper()
	lines, m := linesOf(t, p), machine(t, p)
	next, text := make([]int, len(lines)), m.Start
	var l []line
	for _, k := range picks {
		after, ok := m.Step(text, k)
		if !ok {
			return nil, false
		}
		l = append(l, lines[k.Thread][next[k.Thread]])
		next[k.Thread]++
		text = after
	}
	return l, true
}

// aheadOf tells of all steps of a run which are ahead of which: first what the chapter says outright, then what follows from step to step.
func aheadOf(run []line) [][]bool {
	ahead := make([][]bool, len(run))
	for a := range run {
		ahead[a] = make([]bool, len(run))
		for b := a + 1; b < len(run); b++ {
			x, y := run[a], run[b]
			ahead[a][b] = x.thread == y.thread || x.locked() && y.locked() && x.loc() == y.loc()
		}
	}
	for m := range run {
		for a := range run {
			for b := range run {
				ahead[a][b] = ahead[a][b] || ahead[a][m] && ahead[m][b]
			}
		}
	}
	return ahead
}

// clocksBy counts for each step, of each thread, its steps that are ahead, and the step itself.
func clocksBy(run []line, ahead [][]bool, threads int) [][]int {
	var l [][]int
	for b := range run {
		clock := make([]int, threads)
		for a := range run {
			if ahead[a][b] || a == b {
				clock[run[a].thread]++
			}
		}
		l = append(l, clock)
	}
	return l
}

// apartBy is the pairs of a run's instructions that are apart.
func apartBy(lines [][]line, run []line, ahead [][]bool) []api.Race {
	var l []api.Race
	for _, r := range textRaces(lines) {
		a, b := slices.Index(run, lines[r.A.I][r.A.K]), slices.Index(run, lines[r.B.I][r.B.K])
		if a >= 0 && b >= 0 && !ahead[a][b] && !ahead[b][a] {
			l = append(l, r)
		}
	}
	return l
}

// endsBy is the final states to which the full machine of a model comes.
func endsBy(t *testing.T, model int, p api.Prog) []api.Final {
	t.Helper()
	m, e := reduce.Full(model, p)
	if e != api.OK {
		t.Fatalf("reduce.Full(%d, %v): %d", model, p, e)
	}
	l, _, e := explore.Explore(m, math.MaxInt)
	if e != api.OK {
		t.Fatalf("explore.Explore: %d", e)
	}
	return l
}

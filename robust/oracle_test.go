package robust_test

import (
	"fmt"
	"math"
	"math/bits"
	"slices"
	"strings"
	"testing"

	"weir/api"
	"weir/explore"
	"weir/print"
	"weir/prog"
	"weir/sc"
	"weir/tso"
)

// line is an instruction as a text, and its place: what the chapter says is said of these.
type line struct {
	thread, number int
	text           string
}

// linesOf is a program's instructions.
func linesOf(t *testing.T, p api.Prog) []line {
	t.Helper()
	x, e := prog.Back(p)
	if e != api.OK {
		t.Fatalf("Back(%.300s): %d", fmt.Sprint(p), e)
	}
	var l []line
	for i, thread := range x.Threads {
		for k, in := range thread {
			text, e := print.Instr(in)
			if e != api.OK {
				t.Fatalf("Instr(%v): %d", in, e)
			}
			l = append(l, line{i, k, text})
		}
	}
	return l
}

// loc is the location that an instruction reads or writes; empty: none.
func (x line) loc() string {
	_, behind, _ := strings.Cut(x.text, "[")
	loc, _, _ := strings.Cut(behind, "]")
	return loc
}

func (x line) stores() bool { return strings.HasPrefix(x.text, "MOV [") }

func (x line) loads() bool {
	return strings.HasPrefix(x.text, "MOV ") && strings.HasSuffix(x.text, "]")
}

// stops tells whether it is a fence or a locked instruction.
func (x line) stops() bool {
	return x.text == "MFENCE" || strings.HasPrefix(x.text, "XCHG ") || strings.HasPrefix(x.text, "LOCK ")
}

func (x line) where() api.Where { return api.Where{Part: api.WInstr, I: x.thread, K: x.number} }

// ahead tells whether x stands ahead of y in its thread.
func (x line) ahead(y line) bool { return x.thread == y.thread && x.number < y.number }

// goes tells whether there is a step of a way from x to y.
func (x line) goes(y line) bool {
	if x.loc() == "" || y.loc() == "" {
		return false
	}
	return x.ahead(y) || x.thread != y.thread && x.loc() == y.loc() && !(x.loads() && y.loads())
}

// slotLines is the loads of a program's slots.
func slotLines(l []line) []line {
	return slices.DeleteFunc(slices.Clone(l), func(y line) bool {
		return !y.loads() || !slices.ContainsFunc(l, func(x line) bool { return x.stores() && x.ahead(y) })
	})
}

// reach is all to which a way leads from an instruction.
func reach(l []line, from line) map[line]int {
	found, work := map[line]int{}, []line{from}
	for len(work) > 0 {
		x := work[len(work)-1]
		work = work[:len(work)-1]
		for _, y := range l {
			if x.goes(y) && found[y] == 0 {
				found[y]++
				work = append(work, y)
			}
		}
	}
	return found
}

// suspectsOf is the numbers of the suspect slots, as the chapter says them.
func suspectsOf(l []line) api.Set {
	var s api.Set
	for n, b := range slotLines(l) {
		found := reach(l, b)
		for _, a := range l {
			between := func(x line) bool { return x.stops() && a.ahead(x) && x.ahead(b) }
			if a.stores() && a.ahead(b) && a.loc() != b.loc() && !slices.ContainsFunc(l, between) && found[a] > 0 {
				s |= 1 << n
			}
		}
	}
	return s
}

// fencedBy is a program with fences at some slots, made anew from its instructions.
func fencedBy(p api.Prog, slots []api.Where, s api.Set) api.Prog {
	q := wide(p)
	for i, thread := range p.Threads {
		q.Threads[i] = nil
		for k, op := range thread {
			at := slices.Index(slots, api.Where{Part: api.WInstr, I: i, K: k})
			if at >= 0 && s>>at&1 == 1 {
				q.Threads[i] = append(q.Threads[i], api.Op{Kind: api.OFence})
			}
			q.Threads[i] = append(q.Threads[i], op)
		}
	}
	return q
}

// endsBy is the final states to which a full machine comes.
func endsBy(t *testing.T, m api.Machine, e api.Errno) []api.Final {
	t.Helper()
	if e != api.OK {
		t.Fatalf("no machine: %d", e)
	}
	l, _, e := explore.Explore(m, math.MaxInt)
	if e != api.OK {
		t.Fatalf("explore.Explore: %d", e)
	}
	return l
}

// strictEnds is the final states of sequential consistency.
func strictEnds(t *testing.T, p api.Prog) []api.Final {
	t.Helper()
	m, e := sc.New(p)
	return endsBy(t, m, e)
}

// bufferedEnds is those of x86-TSO.
func bufferedEnds(t *testing.T, p api.Prog) []api.Final {
	t.Helper()
	m, e := tso.New(p)
	return endsBy(t, m, e)
}

// extraOf is the final states of x86-TSO alone, by the full machines.
func extraOf(t *testing.T, p api.Prog) []api.Final {
	t.Helper()
	known := strictEnds(t, p)
	return slices.DeleteFunc(bufferedEnds(t, p), func(f api.Final) bool { return slices.Contains(known, f) })
}

// leastOf is the least sets of slots that bring a program back to order with at most so many fences, found by asking all sets.
func leastOf(t *testing.T, p api.Prog, slots []api.Where, most int) []api.Set {
	t.Helper()
	var good []api.Set
	for s := range api.Set(1) << len(slots) {
		if size(s) <= most && len(extraOf(t, fencedBy(p, slots, s))) == 0 {
			good = append(good, s)
		}
	}
	l := slices.DeleteFunc(slices.Clone(good), func(s api.Set) bool {
		return slices.ContainsFunc(good, func(part api.Set) bool { return part != s && part&^s == 0 })
	})
	slices.SortStableFunc(l, func(a, b api.Set) int { return size(a) - size(b) })
	return l
}

func size(s api.Set) int { return bits.OnesCount64(uint64(s)) }

package cycle_test

import (
	"fmt"
	"slices"
	"strings"
	"testing"

	"weir/api"
	"weir/litmus"
)

// known is all names by their numbers.
const known = "Rfe Rfi Fre Fri Coe Coi PodRR PodRW PodWR PodWW PosRR PosRW PosWR PosWW MFencedRR MFencedRW MFencedWR MFencedWW"

// words is a text's words: edges stand in these tests as texts.
func words(s string) []string { return strings.Fields(s) }

func numberOf(name string) int { return slices.Index(words(known), name) }

// ends is the events from which and to which an edge leads, as the letters of its name say.
func ends(name string) string {
	switch name[:2] {
	case "Rf":
		return "WR"
	case "Fr":
		return "RW"
	case "Co":
		return "WW"
	}
	return name[len(name)-2:]
}

func goesOut(name string) bool { return strings.HasSuffix(name, "e") }

func leadsAway(name string) bool {
	return strings.HasPrefix(name, "Pod") || strings.HasPrefix(name, "MFenced")
}

// around is the member of a list at a place, going round.
func around(l []string, i int) string { return l[(i%len(l)+len(l))%len(l)] }

func count(l []string, is func(string) bool) int {
	return len(slices.DeleteFunc(slices.Clone(l), func(s string) bool { return !is(s) }))
}

// misfit is the number of the first member that does not begin with what the one ahead ends with; -1: there is none.
func misfit(l []string) int {
	for i := range l {
		if ends(around(l, i-1))[1] != ends(l[i])[0] {
			return i
		}
	}
	return -1
}

// checkOf is what Check must answer.
func checkOf(l []string) (int, api.Errno) {
	if len(l) > 16 {
		return 0, api.ErrLong
	}
	if i := slices.IndexFunc(l, func(s string) bool { return numberOf(s) < 0 }); i >= 0 {
		return i, api.ErrCycle
	}
	if i := misfit(l); i >= 0 {
		return i, api.ErrCycle
	}
	if len(l) < 2 || count(l, goesOut) < 2 || count(l, leadsAway) < 2 {
		return 0, api.ErrCycle
	}
	return 0, api.OK
}

// turns is all turns of a cycle.
func turns(l []string) [][]string {
	var all [][]string
	for i := range l {
		all = append(all, slices.Concat(l[i:], l[:i]))
	}
	return all
}

// inOrder compares lists of edges number by number.
func inOrder(a, b []string) int {
	return slices.CompareFunc(a, b, func(x, y string) int { return numberOf(x) - numberOf(y) })
}

// canonOf is a cycle's canonical form.
func canonOf(l []string) []string {
	good := slices.DeleteFunc(turns(l), func(t []string) bool { return !goesOut(t[len(t)-1]) })
	return slices.MinFunc(good, inOrder)
}

// writtenBy is the value that the event k writes: how many writes stand from the edge that leads away to its location on.
func writtenBy(l []string, k int) int {
	n := 1
	for ; !leadsAway(around(l, k-1)); k-- {
		if ends(around(l, k-1))[0] == 'W' {
			n++
		}
	}
	return n
}

// askedOf is the value by which the event k is asked for; -1: it is not.
func askedOf(l []string, k int) int {
	switch {
	case ends(l[k])[0] == 'W':
		return -1
	case strings.HasPrefix(around(l, k-1), "Rf"):
		return writtenBy(l, k-1)
	case strings.HasPrefix(l[k], "Fr"):
		return writtenBy(l, k+1) - 1
	}
	return -1
}

// textOf is the litmus file of a cycle in its canonical form; and prog.Check's error of it.
func textOf(l []string) (string, api.Errno) {
	registers := words("EAX EBX ECX EDX ESI EDI EBP ESP R8 R9 R10 R11 R12 R13 R14 R15")
	cells := make([][]string, count(l, goesOut))
	reads, writes := make([]int, len(cells)), make([]int, count(l, leadsAway))
	var asked []string
	for k, e := range l {
		thread, loc := count(l[:k], goesOut), count(l[:k], leadsAway)%len(writes)
		if ends(e)[0] == 'W' {
			writes[loc]++
			cells[thread] = append(cells[thread], fmt.Sprintf("MOV [x%d],$%d", loc, writtenBy(l, k)))
		} else {
			reg := registers[reads[thread]]
			reads[thread]++
			cells[thread] = append(cells[thread], fmt.Sprintf("MOV %s,[x%d]", reg, loc))
			if v := askedOf(l, k); v >= 0 {
				asked = append(asked, fmt.Sprintf("%d:%s=%d", thread, reg, v))
			}
		}
		if strings.HasPrefix(e, "MFenced") {
			cells[thread] = append(cells[thread], "MFENCE")
		}
	}
	for loc, n := range writes {
		if n >= 2 {
			asked = append(asked, fmt.Sprintf("x%d=%d", loc, n))
		}
	}
	if len(cells) > 4 {
		return "", api.ErrThreads
	}
	if slices.Max(reads) > 8 {
		return "", api.ErrRegisters
	}
	name := strings.Join(l, "+")
	if len(name) > 64 {
		name = "cycle"
	}
	return fileOf(name, cells, strings.Join(asked, ` /\ `)), api.OK
}

// fileOf is the litmus file of threads and a condition.
func fileOf(name string, threads [][]string, cond string) string {
	var heads []string
	most := 0
	for i, l := range threads {
		heads = append(heads, fmt.Sprintf("P%d", i))
		most = max(most, len(l))
	}
	rows := []string{strings.Join(heads, "|") + ";"}
	for k := range most {
		var row []string
		for _, l := range threads {
			if k < len(l) {
				row = append(row, l[k])
			} else {
				row = append(row, "")
			}
		}
		rows = append(rows, strings.Join(row, "|")+";")
	}
	return "X86 " + name + " { }\n" + strings.Join(rows, "\n") + "\nexists " + cond
}

// parsed is the test of a file.
func parsed(t *testing.T, file string) api.Test {
	t.Helper()
	x, err := litmus.Parse(file)
	if err != nil {
		t.Fatalf("%s: %v", file, err)
	}
	return x
}

// same tells whether two tests are the same; empty lists are.
func same(a, b api.Test) bool {
	return a.Name == b.Name && a.Doc == b.Doc && slices.Equal(a.Inits, b.Inits) && slices.Equal(a.Watch, b.Watch) &&
		slices.EqualFunc(a.Threads, b.Threads, slices.Equal[[]api.Instr]) && a.Quant == b.Quant && slices.Equal(a.Cond, b.Cond)
}

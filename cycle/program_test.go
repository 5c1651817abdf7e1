package cycle_test

import (
	"slices"
	"strings"
	"testing"

	"weir/api"
	"weir/cond"
	"weir/cycle"
	"weir/print"
	"weir/prog"
)

// makes holds the test of a cycle against its threads, with a | between any two and a ; between instructions, and its condition.
func makes(t *testing.T, edges, threads, condition string) {
	t.Helper()
	x, e := cycle.Test(words(edges))
	if e != api.OK {
		t.Errorf("Test(%s): %d", edges, e)
		return
	}
	var l []string
	for _, thread := range x.Threads {
		var texts []string
		for _, in := range thread {
			s, e := print.Instr(in)
			if e != api.OK {
				t.Fatalf("Instr(%v): %d", in, e)
			}
			texts = append(texts, s)
		}
		l = append(l, strings.Join(texts, "; "))
	}
	c, e := cond.Text(x.Cond)
	if got := strings.Join(l, " | "); got != threads || e != api.OK || c != condition {
		t.Errorf("Test(%s): %s, %s; want %s, %s", edges, got, c, threads, condition)
	}
	if x.Doc != "" || len(x.Inits) > 0 || len(x.Watch) > 0 || x.Quant != api.Exists {
		t.Errorf("Test(%s): %v", edges, x)
	}
}

// 26.5: the chapter's examples, and cycles that people know.
func TestExamples(t *testing.T) {
	// SB.
	makes(t, "PodWR Fre PodWR Fre", "MOV [x0],$1; MOV EAX,[x1] | MOV [x1],$1; MOV EAX,[x0]", `0:EAX=0 /\ 1:EAX=0`)
	// MP.
	makes(t, "PodWW Rfe PodRR Fre", "MOV EAX,[x0]; MOV EBX,[x1] | MOV [x1],$1; MOV [x0],$1", `0:EAX=1 /\ 0:EBX=0`)
	// 2+2W.
	makes(t, "Coe PodWW Coe PodWW", "MOV [x0],$2; MOV [x1],$1 | MOV [x1],$2; MOV [x0],$1", `x0=2 /\ x1=2`)
	// LB.
	makes(t, "PodRW Rfe PodRW Rfe", "MOV EAX,[x0]; MOV [x1],$1 | MOV EAX,[x1]; MOV [x0],$1", `0:EAX=1 /\ 1:EAX=1`)
	// S.
	makes(t, "PodWW Rfe PodRW Coe", "MOV EAX,[x0]; MOV [x1],$1 | MOV [x1],$2; MOV [x0],$1", `0:EAX=1 /\ x1=2`)
	// R, by a turn.
	makes(t, "PodWW Coe PodWR Fre", "MOV [x0],$2; MOV EAX,[x1] | MOV [x1],$1; MOV [x0],$1", `0:EAX=0 /\ x0=2`)
	// SB with one fence.
	makes(t, "MFencedWR Fre PodWR Fre", "MOV [x0],$1; MOV EAX,[x1] | MOV [x1],$1; MFENCE; MOV EAX,[x0]", `0:EAX=0 /\ 1:EAX=0`)
	// SB that reads its own writes.
	makes(t, "Rfi PodRR Fre Rfi PodRR Fre", "MOV [x0],$1; MOV EAX,[x0]; MOV EBX,[x1] | MOV [x1],$1; MOV EAX,[x1]; MOV EBX,[x0]", `0:EAX=1 /\ 0:EBX=0 /\ 1:EAX=1 /\ 1:EBX=0`)
	// IRIW.
	makes(t, "Rfe PodRR Fre Rfe PodRR Fre", "MOV [x0],$1 | MOV EAX,[x0]; MOV EBX,[x1] | MOV [x1],$1 | MOV EAX,[x1]; MOV EBX,[x0]", `1:EAX=1 /\ 1:EBX=0 /\ 3:EAX=1 /\ 3:EBX=0`)
	// WRC.
	makes(t, "Rfe PodRW Rfe PodRR Fre", "MOV [x0],$1 | MOV EAX,[x0]; MOV [x1],$1 | MOV EAX,[x1]; MOV EBX,[x0]", `1:EAX=1 /\ 2:EAX=1 /\ 2:EBX=0`)
	// RWC.
	makes(t, "Rfe PodRR Fre PodWR Fre", "MOV [x0],$1 | MOV EAX,[x0]; MOV EBX,[x1] | MOV [x1],$1; MOV EAX,[x0]", `1:EAX=1 /\ 1:EBX=0 /\ 2:EAX=0`)
	// 3.SB.
	makes(t, "PodWR Fre PodWR Fre PodWR Fre", "MOV [x0],$1; MOV EAX,[x1] | MOV [x1],$1; MOV EAX,[x2] | MOV [x2],$1; MOV EAX,[x0]", `0:EAX=0 /\ 1:EAX=0 /\ 2:EAX=0`)
	// 3.2W.
	makes(t, "Coe PodWW Coe PodWW Coe PodWW", "MOV [x0],$2; MOV [x1],$1 | MOV [x1],$2; MOV [x2],$1 | MOV [x2],$2; MOV [x0],$1", `x0=2 /\ x1=2 /\ x2=2`)
	// MP with fences.
	makes(t, "MFencedRR Fre MFencedWW Rfe", "MOV EAX,[x0]; MFENCE; MOV EBX,[x1] | MOV [x1],$1; MFENCE; MOV [x0],$1", `0:EAX=1 /\ 0:EBX=0`)
	// LB with fences.
	makes(t, "MFencedRW Rfe MFencedRW Rfe", "MOV EAX,[x0]; MFENCE; MOV [x1],$1 | MOV EAX,[x1]; MFENCE; MOV [x0],$1", `0:EAX=1 /\ 1:EAX=1`)
}

// 26.5: by the chapter's points, where they are less plain.
func TestPoints(t *testing.T) {
	// The last edge that leads away leads to x0: writes there come ahead of those from event 0 on.
	makes(t, "Fre PodWW PodWW Rfe", "MOV EAX,[x0] | MOV [x0],$2; MOV [x1],$1; MOV [x0],$1", `0:EAX=1 /\ x0=2`)
	makes(t, "PodWR PosRR Fre PodWW PosWW Coe", "MOV [x0],$3; MOV EAX,[x1]; MOV EBX,[x1] | MOV [x1],$1; MOV [x0],$1; MOV [x0],$2", `0:EBX=0 /\ x0=3`)
	// An edge that goes out and one that leads away stand behind one another, and Coe ahead of Fre.
	makes(t, "PodWR Fri PodWR Fre Coe", "MOV [x0],$1 | MOV [x0],$2; MOV EAX,[x1]; MOV [x1],$1; MOV EBX,[x0]", `1:EAX=0 /\ 1:EBX=0 /\ x0=2`)
	// A read between two writes, and two locations with two writes each.
	makes(t, "Rfe Fre PodWW Coe PodWW", "MOV EAX,[x0] | MOV [x0],$2; MOV [x1],$1 | MOV [x1],$2; MOV [x0],$1", `0:EAX=1 /\ x0=2 /\ x1=2`)
	// Fences between the events of a thread alone; a read that is not asked for has a register.
	makes(t, "MFencedRR MFencedRR Fre MFencedWW Rfe", "MOV EAX,[x0]; MFENCE; MOV EBX,[x1]; MFENCE; MOV ECX,[x2] | MOV [x2],$1; MFENCE; MOV [x0],$1", `0:EAX=1 /\ 0:ECX=0`)
	// Eight reads of a thread, of which two are asked for.
	makes(t, "PodRR PosRR PosRR PosRR PosRR PosRR PosRR Fre PodWW Rfe",
		"MOV EAX,[x0]; MOV EBX,[x1]; MOV ECX,[x1]; MOV EDX,[x1]; MOV ESI,[x1]; MOV EDI,[x1]; MOV EBP,[x1]; MOV ESP,[x1] | MOV [x1],$1; MOV [x0],$1", `0:EAX=1 /\ 0:ESP=0`)
}

// 26.5: the name is the edges' as far as that is no longer than a name may be.
func TestNames(t *testing.T) {
	for s, want := range map[string]string{
		"Fre PodWR Fre PodWR":           "PodWR+Fre+PodWR+Fre", // the canonical form's
		"Coe PodWW Coe PodWW":           "PodWW+Coe+PodWW+Coe",
		"MFencedWR Fre PodWR Fre":       "PodWR+Fre+MFencedWR+Fre",
		strings.Repeat("PodWR Fre ", 4): "PodWR+Fre+PodWR+Fre+PodWR+Fre+PodWR+Fre",
		// 63 bytes and 65: with these names there are never 64.
		"PodWW PodWW PodWW PodWW Coe PodWW PodWW PodWW PodWW Coe Coe Coe":           "Coe+Coe+PodWW+PodWW+PodWW+PodWW+Coe+PodWW+PodWW+PodWW+PodWW+Coe",
		"PodWW PodWW PodWW PodWW Coe PodWW PodWW PodWW MFencedWW Coe Coe":           "Coe+PodWW+PodWW+PodWW+PodWW+Coe+PodWW+PodWW+PodWW+MFencedWW+Coe",
		"MFencedWW MFencedWW MFencedWW Coe PodWW PodWW PodWW Coe Coe Coe":           "Coe+Coe+MFencedWW+MFencedWW+MFencedWW+Coe+PodWW+PodWW+PodWW+Coe",
		"MFencedWW MFencedWW MFencedWW Coe MFencedWW MFencedWW Coe Coe Coe":         "cycle",
		"MFencedWW MFencedWW Coe PodWW PodWW PodWW PodWW PodWW Coe Coe Coe":         "cycle",
		"PodWW PodWW PodWW PodWW PodWW PodWW PodWW PodWW PodWW PodWW PodWW Coe Coe": "cycle",
		strings.Repeat("MFencedWW ", 14) + "Coe Coe":                                "cycle",
	} {
		x := testOf(t, words(s))
		if x.Name != want || len(want) > api.MaxName {
			t.Errorf("Test(%s): %q, of %d bytes; want %q", s, x.Name, len(x.Name), want)
		}
	}
}

// 26.5: what is refused: first what Check says, then what the program is too great for.
func TestWrong(t *testing.T) {
	refused := func(l []string, want api.Errno) {
		t.Helper()
		if x, e := cycle.Test(l); e != want || !same(x, api.Test{}) {
			t.Errorf("Test(%v): %v, %d; want %d", l, x, e, want)
		}
		if c, e := cycle.Canon(l); (e == api.OK) != (want == api.ErrThreads || want == api.ErrRegisters) || e != api.OK && (e != want || len(c) > 0) {
			t.Errorf("Canon(%v): %v, %d", l, c, e)
		}
	}
	for _, s := range []string{"", "Coe", "PodWR Fre", "PodWR Rfe", "Fre Pod", "PodWR Fre PodWR Fr", "PodWR Fre PodRR Fre", "Rfe Fre", "Rfi PodRR Fri Coi PodWW"} {
		refused(words(s), api.ErrCycle)
	}
	refused(slices.Repeat(words("PodWR Fre"), 9), api.ErrLong)
	refused(make([]string, 17), api.ErrLong)
	for n := 2; n <= 4; n++ {
		testOf(t, slices.Repeat(words("PodWR Fre"), n))
	}
	for n := 5; n <= 8; n++ {
		refused(slices.Repeat(words("PodWR Fre"), n), api.ErrThreads)
	}
	reads := func(n int, rest string) []string { // a thread of n reads
		return append(slices.Repeat(words("PodRR"), n-1), words(rest)...)
	}
	for n := 3; n <= 14; n++ {
		if n <= 8 {
			testOf(t, reads(n, "Fre PodWW Rfe"))
		} else {
			refused(reads(n, "Fre PodWW Rfe"), api.ErrRegisters)
		}
	}
	refused(reads(15, "Fre Rfe"), api.ErrRegisters) // as many as there can be
	refused(reads(9, "Fre Coe Coe Coe PodWW Rfe"), api.ErrThreads)
	testOf(t, reads(8, "Fre Coe Coe PodWW Rfe"))
	testOf(t, slices.Concat(slices.Repeat(words("MFencedWW"), 14), words("Coe Coe"))) // fourteen locations and fences
}

// checkTest holds the test of a cycle against the chapter's words, said of the names; true: no limit refuses it.
func checkTest(t *testing.T, l []string) bool {
	t.Helper()
	x, e := cycle.Test(l)
	file, want := textOf(canonOf(l))
	if e != want {
		t.Fatalf("Test(%v): %d; want %d", l, e, want)
	}
	if e != api.OK {
		if !same(x, api.Test{}) {
			t.Fatalf("Test(%v): %v beside %d", l, x, e)
		}
		return false
	}
	if y := parsed(t, file); !same(x, y) {
		t.Fatalf("Test(%v): %v; want %v", l, x, y)
	}
	if w, e := prog.Check(x); e != api.OK {
		t.Fatalf("Test(%v): %v, which is wrong: %v, %d", l, x, w, e)
	}
	return true
}

// 26.5: of all cycles of four to six edges, and unruly ones of any length.
func TestTests(t *testing.T) {
	for n := 4; n <= 6; n++ {
		for l := range over(t, words(known), n) {
			checkTest(t, l)
		}
	}
	roll := dice(265)
	good, wrong := 0, 0
	for range 15000 {
		if checkTest(t, someCycle(t, roll, 4+roll(13), 2+roll(6))) {
			good++
		} else {
			wrong++
		}
	}
	if good < 5000 || wrong < 300 {
		t.Errorf("%d tests, %d cycles that limits refuse", good, wrong)
	}
}

// 26.5: threads with very many reads.
func TestManyReads(t *testing.T) {
	roll := dice(2651)
	good, wrong := 0, 0
	for range 3000 {
		l := words("Fre " + pick(roll, words("PodWW PosWW MFencedWW Coe")) + " PodWW Rfe " + pick(roll, words("PodRR MFencedRR PosRR")))
		for range roll(11) {
			l = slices.Insert(l, len(l)-roll(2), pick(roll, words("PodRR MFencedRR PosRR")))
		}
		if _, e := checkOf(l); e != api.OK {
			continue
		}
		if checkTest(t, l) {
			good++
		} else {
			wrong++
		}
	}
	if good < 500 || wrong < 500 {
		t.Errorf("%d tests, %d cycles that limits refuse", good, wrong)
	}
}

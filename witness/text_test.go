package witness_test

import (
	"math"
	"slices"
	"strings"
	"testing"

	"weir/api"
	"weir/witness"
)

// 24.6: the text of every candidate of small programs, and of runs of great ones.
func TestText(t *testing.T) {
	roll := dice(246)
	holds := func(p api.Prog, x api.Exec) {
		if s, e := witness.Text(p, x); e != api.OK || s != saysText(p, x) {
			t.Fatalf("Text(%v, %v): %q, %d; want %q", p, x, s, e, saysText(p, x))
		}
	}
	for _, p := range smallProgs(t, roll, 200, 100) {
		for _, x := range candidates(t, p) {
			holds(p, x)
		}
	}
	for _, p := range greatProgs(t) {
		for _, kind := range kinds() {
			holds(p, execOf(t, kind, p, someRun(t, roll, machine(t, kind, p))))
		}
	}
}

// 24.6: the chapter's example 4, and what it does not show: fences, locked events, values below 0, names, a location with one write, reads from writes.
func TestTextWritten(t *testing.T) {
	x := execOf(t, api.MTSO, sb(t), parsed(t, "0:s 0:s 1:s 1:s 0:f 1:f"))
	if s, e := witness.Text(sb(t), x); e != api.OK || s != "i:x=0\ni:y=0\n0:0:Wx=1\n0:1:Ry=0 <- i:y\n1:0:Wy=1\n1:1:Rx=0 <- i:x\nco: i:x < 0:0:Wx\nco: i:y < 1:0:Wy\n" {
		t.Errorf("Text of SB: %q, %d", s, e)
	}
	p := of(t, "a.b=-9223372036854775808; only=-1; 0:EAX=-1", "LOCK XADD [a.b],EAX; MFENCE; MOV [a.b],$-3; MOV EBX,[a.b]; LOCK CMPXCHG [only],EBX")
	x = execOf(t, api.MSC, p, parsed(t, "0:s 0:s 0:s 0:s 0:s"))
	want := "i:a.b=-9223372036854775808\ni:only=-1\n" +
		"0:0:Ra.b*=-9223372036854775808 <- i:a.b\n0:0:Wa.b*=9223372036854775807\n" +
		"0:1:F\n0:2:Wa.b=-3\n0:3:Ra.b=-3 <- 0:2:Wa.b\n0:4:Ronly*=-1 <- i:only\n" +
		"co: i:a.b < 0:0:Wa.b* < 0:2:Wa.b\n"
	if s, e := witness.Text(p, x); e != api.OK || s != want {
		t.Errorf("Text: %q, %d; want %q", s, e, want)
	}
	for _, p := range []api.Prog{bare(1), bare(4)} {
		if s, e := witness.Text(p, execOf(t, api.MPSO, p, nil)); e != api.OK || s != "" {
			t.Errorf("Text of a bare program: %q, %d", s, e)
		}
	}
}

// 24.7: the story of each beginning of unruly runs, held against the player's.
func TestStory(t *testing.T) {
	roll := dice(247)
	progs := smallProgs(t, roll, 120, math.MaxInt)
	for _, p := range greatProgs(t) {
		progs = append(progs, p)
	}
	words := map[string]int{}
	for _, p := range progs {
		for _, kind := range kinds() {
			l := someRun(t, roll, machine(t, kind, p))
			y := newPlayer(kind, p)
			storyIs(t, kind, p, nil, y.told())
			for n, k := range l {
				if !y.take(k) {
					t.Fatalf("by %d the player does not take %v of %v", kind, l[:n+1], p)
				}
				if n < 12 || n == len(l)-1 {
					storyIs(t, kind, p, l[:n+1], y.told())
				}
			}
			for _, word := range []string{" waits", " reaches memory", " reads ", " goes on", " takes the lock", " gives the lock back", ", EAX=", "end: "} {
				words[word] += strings.Count(y.told(), word)
			}
		}
	}
	for word, n := range words {
		if n < 100 {
			t.Errorf("%q: %d", word, n)
		}
	}
}

func storyIs(t *testing.T, kind int, p api.Prog, l []api.Pick, want string) {
	t.Helper()
	if s, e := witness.Story(kind, p, l); e != api.OK || s != want {
		t.Fatalf("Story(%d, %v, %v): %q, %d; want %q", kind, p, l, s, e, want)
	}
}

// 24.7: picks that can't be done, wherever they stand.
func TestStoryRefuses(t *testing.T) {
	roll := dice(2472)
	refused := 0
	for _, p := range smallProgs(t, roll, 100, math.MaxInt) {
		for _, kind := range kinds() {
			l := someRun(t, roll, machine(t, kind, p))
			for range 10 {
				other := slices.Insert(slices.Clone(l), roll(len(l)+1), api.Pick{Thread: roll(4), Kind: 1 + roll(2), Loc: roll(3)})
				y, ok := played(kind, p, other)
				if ok {
					storyIs(t, kind, p, other, y.told())
					continue
				}
				storyRefused(t, kind, p, other)
				refused++
			}
		}
	}
	if refused < 500 {
		t.Errorf("%d lists were refused", refused)
	}
	run := parsed(t, "0:s 0:s 1:s 1:s 0:f 1:f")
	for _, k := range strangePicks() {
		for at := range len(run) + 1 {
			storyRefused(t, api.MTSO, sb(t), slices.Insert(slices.Clone(run), at, k))
		}
		storyRefused(t, api.MTSO, sb(t), slices.Concat(run, slices.Repeat([]api.Pick{k}, 1<<20)))
	}
	storyRefused(t, api.MTSO, sb(t), append(slices.Clone(run), api.Pick{Kind: api.PStep})) // behind the end
	storyRefused(t, api.MSC, sb(t), run)
}

func storyRefused(t *testing.T, kind int, p api.Prog, l []api.Pick) {
	t.Helper()
	if s, e := witness.Story(kind, p, l); e != api.ErrPick || s != "" {
		t.Fatalf("Story(%d, %v, %.300v): %q, %d; want ErrPick", kind, p, l, s, e)
	}
}

// 24.7: the chapter's example 3, and stories of every kind of instruction, written out.
func TestStoryWritten(t *testing.T) {
	run := parsed(t, "0:s 0:s 1:s 1:s 0:f 1:f")
	storyIs(t, api.MTSO, sb(t), run, "0: MOV [x],$1, x=1 waits\n0: MOV EAX,[y] reads 0\n1: MOV [y],$1, y=1 waits\n1: MOV EAX,[x] reads 0\n0: x=1 reaches memory\n1: y=1 reaches memory\nend: 0:EAX=0; 1:EAX=0; x=1; y=1;\n")
	storyIs(t, api.MTSO, sb(t), run[:3], "0: MOV [x],$1, x=1 waits\n0: MOV EAX,[y] reads 0\n1: MOV [y],$1, y=1 waits\n")
	storyIs(t, api.MTSO, sb(t), nil, "")
	storyIs(t, api.MSC, bare(1), nil, "end: \n")

	p := of(t, "x=5; 0:EBX=-7; 0:EAX=5",
		"MOV EDI,$-2; MOV ESI,EDI; MOV [x],EBX; MFENCE; MOV EDX,[x]; XCHG [x],EDI; LOCK CMPXCHG [x],EBX; LOCK CMPXCHG [x],EBX; LOCK XADD [x],EBX")
	ahead := "0: MOV EDI,$-2, EDI=-2\n0: MOV ESI,EDI, ESI=-2\n"
	end := "end: 0:EAX=-2; 0:EBX=-7; 0:EDI=-7; 0:EDX=-7; 0:ESI=-2; x=-14;\n"
	storyIs(t, api.MSC, p, parsed(t, strings.Repeat("0:s ", 9)), ahead+
		"0: MOV [x],EBX, x=-7 reaches memory\n0: MFENCE goes on\n0: MOV EDX,[x] reads -7\n"+
		"0: XCHG [x],EDI reads -7, x=-2 reaches memory\n0: LOCK CMPXCHG [x],EBX reads -2\n"+
		"0: LOCK CMPXCHG [x],EBX reads -2, x=-7 reaches memory\n0: LOCK XADD [x],EBX reads -7, x=-14 reaches memory\n"+end)
	lock := func(instr, reads string) string {
		return "0: " + instr + " takes the lock\n0: " + instr + " reads " + reads + "\n0: " + instr + " gives the lock back\n"
	}
	flushed := func(instr, reads, write string) string {
		s := lock(instr, reads+", "+write+" waits")
		at := strings.LastIndex(s, "0: ")
		return s[:at] + "0: " + write + " reaches memory\n" + s[at:]
	}
	for _, kind := range []int{api.MTSO, api.MPSO} {
		storyIs(t, kind, p, parsed(t, "0:s 0:s 0:s 0:f 0:s 0:s 0:s 0:s 0:f 0:s 0:s 0:s 0:s 0:s 0:s 0:f 0:s 0:s 0:s 0:f 0:s"), ahead+
			"0: MOV [x],EBX, x=-7 waits\n0: x=-7 reaches memory\n0: MFENCE goes on\n0: MOV EDX,[x] reads -7\n"+
			flushed("XCHG [x],EDI", "-7", "x=-2")+lock("LOCK CMPXCHG [x],EBX", "-2")+
			flushed("LOCK CMPXCHG [x],EBX", "-2", "x=-7")+flushed("LOCK XADD [x],EBX", "-7", "x=-14")+end)
	}
	// A flush by PSO names the location of the write, not the oldest one; a locked instruction reads from the own buffer.
	p = of(t, "", "MOV [x],$1; MOV [y],$2; XCHG [y],EAX")
	storyIs(t, api.MPSO, p, parsed(t, "0:s 0:s 0:s 0:s 0:f:1 0:f 0:f:1"), "0: MOV [x],$1, x=1 waits\n0: MOV [y],$2, y=2 waits\n0: XCHG [y],EAX takes the lock\n0: XCHG [y],EAX reads 2, y=0 waits\n0: y=2 reaches memory\n0: x=1 reaches memory\n0: y=0 reaches memory\n")
	storyIs(t, api.MTSO, p, parsed(t, "0:s 0:s 0:s 0:s 0:f 0:f"), "0: MOV [x],$1, x=1 waits\n0: MOV [y],$2, y=2 waits\n0: XCHG [y],EAX takes the lock\n0: XCHG [y],EAX reads 2, y=0 waits\n0: x=1 reaches memory\n0: y=2 reaches memory\n")
}

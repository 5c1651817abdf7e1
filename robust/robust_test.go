package robust_test

import (
	"iter"
	"math"
	"reflect"
	"slices"
	"strings"
	"sync"
	"testing"

	"weir/api"
	"weir/prog"
	"weir/robust"
)

func slotsOf(t *testing.T, p api.Prog) []api.Where {
	t.Helper()
	l, e := robust.Slots(p)
	if e != api.OK {
		t.Fatalf("Slots(%.300s): %d", told(p), e)
	}
	return l
}

func leastOver(t *testing.T, p api.Prog) iter.Seq[api.Set] {
	t.Helper()
	it, e := robust.Least(p)
	if e != api.OK || it == nil {
		t.Fatalf("Least(%.300s): %d", told(p), e)
	}
	return it
}

func leastSets(t *testing.T, p api.Prog) []api.Set {
	t.Helper()
	return slices.Collect(leastOver(t, p))
}

// says holds all calls but Fence against what they ought to answer; extra is final states by their values.
func says(t *testing.T, what string, p api.Prog, slots []api.Where, extra []api.Final, suspects api.Set, least ...api.Set) {
	t.Helper()
	if l := slotsOf(t, p); !slices.Equal(l, slots) {
		t.Errorf("%s: Slots: %v; want %v", what, l, slots)
	}
	if l, e := robust.Extra(p); e != api.OK || !slices.Equal(l, extra) {
		t.Errorf("%s: Extra: %v, %d; want %v", what, l, e, extra)
	}
	if ok, e := robust.Robust(p); e != api.OK || ok != (len(extra) == 0) {
		t.Errorf("%s: Robust: %v, %d", what, ok, e)
	}
	if s, e := robust.Suspects(p); e != api.OK || s != suspects {
		t.Errorf("%s: Suspects: %b, %d; want %b", what, s, e, suspects)
	}
	if l := leastSets(t, p); !slices.Equal(l, least) {
		t.Errorf("%s: Least: %b; want %b", what, l, least)
	}
}

func at(thread, number int) api.Where { return api.Where{Part: api.WInstr, I: thread, K: number} }

// The chapter's examples.
func TestExamples(t *testing.T) {
	says(t, "SB", sb(t), []api.Where{at(0, 1), at(1, 1)}, []api.Final{final(0, 0, 1, 1)}, set(0, 1), set(0, 1))
	says(t, "MP", of(t, "", "MOV [x],$1; MOV [y],$1", "MOV EAX,[y]; MOV EBX,[x]"), nil, nil, 0, 0)
	says(t, "SB with two XCHG", of(t, "0:EBX=1; 1:EBX=1", "XCHG [x],EBX; MOV EAX,[y]", "XCHG [y],EBX; MOV EAX,[x]"), nil, nil, 0, 0)
	says(t, "SB with one XCHG", of(t, "0:EBX=1", "XCHG [x],EBX; MOV EAX,[y]", "MOV [y],$1; MOV EAX,[x]"), []api.Where{at(1, 1)}, []api.Final{final(0, 0, 0, 1, 1)}, set(0), set(0))
	says(t, "nobody writes y", of(t, "", "MOV [x],$1; MOV EAX,[y]", "MOV EAX,[x]"), []api.Where{at(0, 1)}, nil, 0, 0)
}

// Other programs of which it is plain to see.
func TestPlain(t *testing.T) {
	for _, p := range []api.Prog{bare(1), bare(4), of(t, "", "MFENCE"), of(t, "a=1", ""), of(t, "", "MOV EAX,[x]; MOV [x],$1", "MOV EAX,$1")} {
		says(t, told(p), p, nil, nil, 0, 0)
	}
	// A fence ahead of the load of the own location, which is not suspect, does as well as one behind it.
	says(t, "own writes", of(t, "", "MOV [x],$1; MOV EAX,[x]; MOV EBX,[y]", "MOV [y],$1; MFENCE; MOV EAX,[x]"),
		[]api.Where{at(0, 1), at(0, 2), at(1, 2)}, []api.Final{final(1, 0, 0, 1, 1)}, set(1), set(0), set(1))
	// Sets of one size rise by their words, whatever threads they belong to; a greater set comes behind smaller ones.
	says(t, "two and two", of(t, "", "MOV [x],$1; MOV EAX,[x]; MOV EBX,[y]", "MOV [y],$1; MOV EAX,[y]; MOV EBX,[x]"),
		[]api.Where{at(0, 1), at(0, 2), at(1, 1), at(1, 2)}, []api.Final{final(1, 0, 1, 0, 1, 1)}, set(1, 3), set(0, 2), set(1, 2), set(0, 3), set(1, 3))
	// Suspect, and yet no final state tells.
	says(t, "no other values", of(t, "", "MOV [x],$0; MOV EAX,[y]", "MOV [y],$0; MOV EAX,[x]"), []api.Where{at(0, 1), at(1, 1)}, nil, set(0, 1), 0)
	// Moves are in nobody's way; instructions with LOCK stand for a fence, whether they write or not.
	says(t, "moves", of(t, "", "MOV EAX,$1; MOV [x],EAX; MOV EBX,EAX; MOV EAX,[y]", "MOV [y],$1; MOV EAX,[x]; MOV EAX,EBX; MOV EAX,$7"),
		[]api.Where{at(0, 3), at(1, 1)}, nil, set(0, 1), 0)
	for _, in := range []string{"MFENCE", "XCHG [z],EDX", "LOCK XADD [z],EDX", "LOCK CMPXCHG [z],EDX"} {
		p := of(t, "z=5", "MOV [x],$1;"+in+"; MOV EBX,[y]", "MOV [y],$1;"+in+"; MOV EBX,[x]")
		says(t, in, p, []api.Where{at(0, 2), at(1, 2)}, nil, 0, 0)
	}
}

// refuses tells which error all calls answer of a program, and that nothing comes with it.
func refuses(t *testing.T, what string, p api.Prog, want api.Errno) {
	t.Helper()
	if l, e := robust.Slots(p); e != want || len(l) != 0 {
		t.Errorf("Slots, %s: %v, %d; want %d", what, l, e, want)
	}
	for _, s := range []api.Set{0, 1, 1 << 63, math.MaxUint64} {
		if q, e := robust.Fence(p, s); e != want || told(q) != told(api.Prog{}) {
			t.Errorf("Fence(%b), %s: %v, %d; want %d", s, what, q, e, want)
		}
	}
	if l, e := robust.Extra(p); e != want || len(l) != 0 {
		t.Errorf("Extra, %s: %v, %d; want %d", what, l, e, want)
	}
	if ok, e := robust.Robust(p); e != want || ok {
		t.Errorf("Robust, %s: %v, %d; want %d", what, ok, e, want)
	}
	if it, e := robust.Least(p); e != want || it != nil {
		t.Errorf("Least, %s: %d; want %d", what, e, want)
	}
	if s, e := robust.Suspects(p); e != want || s != 0 {
		t.Errorf("Suspects, %s: %b, %d; want %d", what, s, e, want)
	}
}

// Ahead of all else: prog.Valid's error.
func TestErrors(t *testing.T) {
	for what, p := range wrongProgs(t) {
		want := prog.Valid(p)
		if want == api.OK {
			t.Fatalf("%s: the program is right", what)
		}
		refuses(t, what, p, want)
	}
	refuses(t, "no thread", api.Prog{}, api.ErrThreads)
	events := sb(t)
	events.Threads[1] = append(events.Threads[1], slices.Repeat([]api.Op{{Kind: api.OFence}}, 59)...)
	refuses(t, "65 events", events, api.ErrEvents)
}

// 25.1, 25.4: the slots, those that are suspect, and fences at some of them, of small and great programs.
func TestSlots(t *testing.T) {
	roll := dice(251)
	suspect, other, fences := 0, 0, 0
	for _, p := range append(smallProgs(t, roll, 3000), greatProgs(t)...) {
		lines := linesOf(t, p)
		var want []api.Where
		for _, x := range slotLines(lines) {
			want = append(want, x.where())
		}
		slots := slotsOf(t, p)
		if !slices.Equal(slots, want) || len(slots) > api.MaxEvents {
			t.Fatalf("Slots(%.300s): %v; want %v", told(p), slots, want)
		}
		s, e := robust.Suspects(p)
		if e != api.OK || s != suspectsOf(lines) {
			t.Fatalf("Suspects(%.300s): %b, %d; want %b", told(p), s, e, suspectsOf(lines))
		}
		suspect, other = suspect+size(s), other+len(slots)-size(s)
		for range 4 {
			s := api.Set(roll(math.MaxInt)) & (1<<len(slots) - 1)
			if prog.Events(p)+size(s) > api.MaxEvents {
				continue
			}
			q, e := robust.Fence(p, s)
			if want := fencedBy(p, slots, s); e != api.OK || told(q) != told(want) || prog.Valid(q) != api.OK {
				t.Fatalf("Fence(%.300s, %b): %.300s, %d; want %.300s", told(p), s, told(q), e, told(want))
			}
			fences += size(s)
		}
	}
	if suspect < 2000 || other < 2000 || fences < 5000 {
		t.Errorf("%d suspect slots, %d others, %d fences", suspect, other, fences)
	}
}

// 25.1: what Fence refuses, and at the edges what it does not.
func TestFenceRefuses(t *testing.T) {
	fence := func(what string, p api.Prog, s api.Set, want api.Errno) {
		t.Helper()
		q, e := robust.Fence(p, s)
		if e != want || e != api.OK && told(q) != told(api.Prog{}) {
			t.Errorf("%s: Fence(%b): %.300s, %d; want %d", what, s, told(q), e, want)
		}
	}
	for i := 2; i < 64; i++ {
		fence("SB", sb(t), 1<<i, api.ErrRange)
		fence("SB", sb(t), 1<<i|3, api.ErrRange)
	}
	for s := range api.Set(4) {
		fence("SB", sb(t), s, api.OK)
	}
	fence("no slot", bare(1), 0, api.OK)
	fence("no slot", bare(1), 1, api.ErrRange)
	for n, most := range map[int]int{56: 2, 57: 1, 58: 0} { // SB has six events
		p := of(t, "", "MOV [x],$1; MOV EAX,[y]"+wait(n), "MOV [y],$1; MOV EAX,[x]")
		for s := range api.Set(4) {
			want := api.OK
			if size(s) > most {
				want = api.ErrEvents
			}
			fence("SB that waits", p, s, want)
			fence("SB that waits", p, s|4, api.ErrRange) // a number that is no slot's counts more than too many events
		}
	}
	// As many slots as there can be, and no room for a fence; one slot less, and room for one.
	most := of(t, "", "MOV [x],$1"+strings.Repeat("; MOV EAX,[x]", 62))
	if l := slotsOf(t, most); len(l) != 62 || l[0] != at(0, 1) || l[61] != at(0, 62) {
		t.Errorf("Slots: %v", l)
	}
	fence("62 slots", most, 0, api.OK)
	fence("62 slots", most, 1<<61, api.ErrEvents)
	fence("62 slots", most, 1<<62, api.ErrRange)
	fence("61 slots", of(t, "", "MOV [x],$1"+strings.Repeat("; MOV EAX,[x]", 61)), 1<<60, api.OK)
	// Half of 60 events: all slots may have a fence.
	half := of(t, "", "MOV [x],$1"+strings.Repeat("; MOV EAX,[x]", 31))
	fence("31 slots", half, 1<<31-1, api.OK)
}

// 25.2: held against both full machines, which know no suspects.
func TestExtra(t *testing.T) {
	roll := dice(252)
	robusts, others, several := 0, 0, 0
	for _, p := range smallProgs(t, roll, 1200) {
		want := extraOf(t, p)
		l, e := robust.Extra(p)
		if e != api.OK || !slices.Equal(l, want) {
			t.Fatalf("Extra(%v): %v, %d; want %v", p, l, e, want)
		}
		if ok, e := robust.Robust(p); e != api.OK || ok != (len(want) == 0) {
			t.Fatalf("Robust(%v): %v, %d; there are %v", p, ok, e, want)
		}
		switch {
		case len(want) == 0:
			robusts++
		case len(want) == 1:
			others++
		default:
			several++
		}
	}
	if robusts < 200 || others < 100 || several < 50 {
		t.Errorf("%d programs are robust, %d have an extra final state, %d have more", robusts, others, several)
	}
}

// 25.3: held against asking all sets; fences at a thread's end, which change no final state, leave room for a few more alone.
func TestLeast(t *testing.T) {
	roll := dice(253)
	seen := map[int]int{} // how many programs have so many least sets
	greatest, none := 0, 0
	for _, p := range smallProgs(t, roll, 500) {
		slots := slotsOf(t, p)
		if len(slots) > 4 {
			continue
		}
		most := roll(len(slots) + 2)
		want := leastOf(t, p, slots, most)
		p.Threads[0] = append(p.Threads[0], slices.Repeat([]api.Op{{Kind: api.OFence}}, api.MaxEvents-prog.Events(p)-most)...)
		l := leastSets(t, p)
		if !slices.Equal(l, want) {
			t.Fatalf("Least(%v): %b; want %b", p, l, want)
		}
		seen[len(l)]++
		if len(l) == 0 {
			none++
		}
		if len(l) > 0 && size(l[len(l)-1]) > 1 {
			greatest++
		}
	}
	if seen[1] < 100 || seen[2] < 10 || none < 10 || greatest < 20 {
		t.Errorf("numbers of least sets: %v; %d programs have none, %d have one of two slots or more", seen, none, greatest)
	}
}

// 25.3: where there is room for one fence, and two are needed, there is nothing to be asked of 2^42 sets.
func TestLeastWithoutRoom(t *testing.T) {
	p := of(t, "", "MOV [x],$1; MOV EAX,[y]"+strings.Repeat("; MOV EBX,[x]", 40)+wait(17), "MOV [y],$1; MOV EBX,[x]")
	if prog.Events(p) != 63 || len(slotsOf(t, p)) != 42 {
		t.Fatalf("%d events, %d slots", prog.Events(p), len(slotsOf(t, p)))
	}
	if l := leastSets(t, p); len(l) != 0 {
		t.Errorf("Least: %b", l)
	}
	// No room at all: the empty set alone is asked.
	p = of(t, "", "MOV [x],$1; MOV EAX,[y]"+strings.Repeat("; MOV EBX,[x]", 40)+wait(18), "MOV [y],$1; MOV EBX,[x]")
	if l := leastSets(t, p); len(l) != 0 {
		t.Errorf("Least: %b", l)
	}
	p = of(t, "", "MOV [x],$1"+strings.Repeat("; MOV EBX,[x]", 62))
	if l := leastSets(t, p); !slices.Equal(l, []api.Set{0}) {
		t.Errorf("Least: %b", l)
	}
}

// 25.3: the sets are asked as the loop comes to them: behind the first one there are 2^39 here that have it not within them.
func TestLeastAsFarAsAsked(t *testing.T) {
	p := of(t, "1:EAX=1", "MOV [x],$1; MOV EAX,[y]"+strings.Repeat("; MOV EBX,[y]", 39), "XCHG [y],EAX; MOV EAX,[x]")
	if n := len(slotsOf(t, p)); n != 40 {
		t.Fatalf("%d slots", n)
	}
	for s := range leastOver(t, p) {
		if s != set(0) {
			t.Errorf("Least: %b at first", s)
		}
		break
	}
}

// R7: an iterator may be left, gone over again, within itself and by several at once.
func TestLeastAgain(t *testing.T) {
	it := leastOver(t, of(t, "", "MOV [x],$1; MOV EAX,[x]; MOV EBX,[y]", "MOV [y],$1; MOV EAX,[y]; MOV EBX,[x]"))
	want := []api.Set{set(0, 2), set(1, 2), set(0, 3), set(1, 3)}
	for n := range want {
		var l []api.Set
		for s := range it {
			if l = append(l, s); len(l) > n {
				break
			}
		}
		if !slices.Equal(l, want[:n+1]) {
			t.Errorf("Least, left behind %d: %b", n+1, l)
		}
	}
	outer := 0
	for s := range it {
		if s != want[outer] || !slices.Equal(slices.Collect(it), want) {
			t.Errorf("Least within itself, at %b", s)
		}
		outer++
	}
	if outer != len(want) {
		t.Errorf("Least within itself: %d sets", outer)
	}
	var all sync.WaitGroup
	for range 4 {
		all.Go(func() {
			if l := slices.Collect(it); !slices.Equal(l, want) {
				t.Errorf("Least by several: %b", l)
			}
		})
	}
	all.Wait()
}

// R4: what is handed in is not changed and not kept, what is handed out is new memory.
func TestMemory(t *testing.T) {
	roll := dice(2504)
	for _, p := range smallProgs(t, roll, 100) {
		p := wide(p)
		ahead := whole(reflect.ValueOf(p))
		slots, slots2 := slotsOf(t, p), slotsOf(t, p)
		q, e := robust.Fence(p, 1<<len(slots)-1)
		q2, e2 := robust.Fence(p, 0)
		q3, e3 := robust.Fence(p, 0)
		if e != api.OK || e2 != api.OK || e3 != api.OK {
			t.Fatalf("Fence(%v): %d, %d, %d", p, e, e2, e3)
		}
		extra, _ := robust.Extra(p)
		extra2, _ := robust.Extra(p)
		robust.Suspects(p)
		robust.Robust(p)
		it := leastOver(t, p)
		want := slices.Collect(it)
		if now := whole(reflect.ValueOf(p)); now != ahead {
			t.Fatalf("a program has changed: %s; it was %s", now, ahead)
		}
		apart(t, p, slots, slots2, q, q2, q3)
		if len(extra) > 0 && &extra[0] == &extra2[0] {
			t.Fatalf("Extra(%v): two answers share memory", p)
		}
		spoil(reflect.ValueOf(&p).Elem())
		if l := slices.Collect(it); !slices.Equal(l, want) {
			t.Fatalf("Least keeps what was handed in: %b; want %b", l, want)
		}
	}
}

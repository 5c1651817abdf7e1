package race_test

import (
	"fmt"
	"math"
	"reflect"
	"slices"
	"strings"
	"testing"

	"weir/api"
	"weir/prog"
	"weir/race"
	"weir/script"
)

func at(thread, number int) api.Where { return api.Where{Part: api.WInstr, I: thread, K: number} }

// pair is a race that is not triangular.
func pair(i, a, k, b int) api.Race { return api.Race{A: at(i, a), B: at(k, b)} }

// tri is one that is.
func tri(i, a, k, b int) api.Race { return api.Race{A: at(i, a), B: at(k, b), Triangle: true} }

func find(t *testing.T, p api.Prog) []api.Race {
	t.Helper()
	l, e := race.Find(p)
	if e != api.OK {
		t.Fatalf("Find(%.300s): %d", told(p), e)
	}
	return l
}

// has holds Find, Free and Calm of a program against the races that it ought to have.
func has(t *testing.T, p api.Prog, want ...api.Race) {
	t.Helper()
	if l := find(t, p); !slices.Equal(l, want) {
		t.Fatalf("Find(%.300s): %v; want %v", told(p), l, want)
	}
	if ok, e := race.Free(p); e != api.OK || ok != (len(want) == 0) {
		t.Fatalf("Free(%.300s): %v, %d; its races are %v", told(p), ok, e, want)
	}
	calm := !slices.ContainsFunc(want, func(r api.Race) bool { return r.Triangle })
	if ok, e := race.Calm(p); e != api.OK || ok != calm {
		t.Fatalf("Calm(%.300s): %v, %d; its races are %v", told(p), ok, e, want)
	}
}

// leads holds Way against the picks that it ought to answer.
func leads(t *testing.T, p api.Prog, r api.Race, want string) {
	t.Helper()
	l, e := race.Way(p, r)
	if text, _ := script.Text(l); e != api.OK || text != want {
		t.Fatalf("Way(%.300s, %v): %q, %d; want %q", told(p), r, text, e, want)
	}
}

// The chapter's examples 1 to 3 and 5.
func TestExamples(t *testing.T) {
	has(t, sb(t), tri(0, 0, 1, 1), tri(0, 1, 1, 0))
	has(t, mp(t), pair(0, 0, 1, 1), pair(0, 1, 1, 0))
	has(t, of(t, "", "LOCK XADD [x],EAX", "LOCK XADD [x],EAX"))
	has(t, of(t, "", "MOV EAX,[x]", "LOCK XADD [x],EAX"), pair(0, 0, 1, 0))
	has(t, of(t, "", "LOCK XADD [x],EAX", "MOV EAX,[x]"), pair(0, 0, 1, 0))
	leads(t, sb(t), tri(0, 0, 1, 1), "1:s")
	leads(t, sb(t), tri(0, 1, 1, 0), "0:s")
	if s := race.Text(sb(t), tri(0, 0, 1, 1)); s != "0:0 1:1 x triangular" {
		t.Errorf("Text: %q", s)
	}
	if s := race.Text(sb(t), tri(0, 1, 1, 0)); s != "0:1 1:0 y triangular" {
		t.Errorf("Text: %q", s)
	}
	if s := race.Text(mp(t), pair(0, 0, 1, 1)); s != "0:0 1:1 x" {
		t.Errorf("Text: %q", s)
	}
}

// 29.1: each two kinds of instructions, to one location and to two.
func TestPairs(t *testing.T) {
	kinds := []struct {
		text                  string
		touch, writes, locked bool
	}{
		{"MOV EAX,$1", false, false, false},
		{"MOV EAX,EBX", false, false, false},
		{"MFENCE", false, false, false},
		{"MOV EAX,[x]", true, false, false},
		{"MOV [x],$1", true, true, false},
		{"MOV [x],EAX", true, true, false},
		{"XCHG [x],EAX", true, true, true},
		{"LOCK CMPXCHG [x],EAX", true, true, true},
		{"LOCK XADD [x],EAX", true, true, true},
	}
	for _, a := range kinds {
		for _, b := range kinds {
			var want []api.Race
			if a.touch && b.touch && (a.writes || b.writes) && !(a.locked && b.locked) {
				want = append(want, pair(0, 0, 1, 0))
			}
			has(t, of(t, "", a.text, b.text), want...)
			has(t, of(t, "", a.text, strings.ReplaceAll(b.text, "x", "y")))
			has(t, of(t, "", a.text+";"+b.text)) // one thread alone has no race
		}
	}
}

// 29.1: what stands between a store and the load behind it, and who writes what is read.
func TestTriangles(t *testing.T) {
	for _, store := range []string{"MOV [y],$1", "MOV [y],EAX", "MOV [x],$1"} {
		for _, other := range []string{"MOV [x],$2", "MOV [x],EAX", "XCHG [x],EAX", "LOCK XADD [x],EAX", "LOCK CMPXCHG [x],EAX"} {
			for between, triangle := range map[string]bool{
				"": true, "MOV EBX,$1;": true, "MOV EBX,EAX;": true, "MOV EBX,[z];": true, "MOV EBX,[y];": true,
				"MFENCE;": false, "XCHG [z],EAX;": false, "LOCK XADD [z],EAX;": false, "LOCK CMPXCHG [z],EAX;": false, "MOV [z],$1;MFENCE;": false, "MFENCE;MOV EAX,[z];": false,
				"MFENCE;MOV [z],$1;": true, "XCHG [z],EAX;MOV [z],$1;": true,
			} {
				load := store + ";" + between + "MOV EAX,[x]"
				p, q := of(t, "", load, other), of(t, "", other, load)
				last := len(p.Threads[0]) - 1
				var want, turned []api.Race
				if strings.Contains(store, "x") {
					want, turned = append(want, pair(0, 0, 1, 0)), append(turned, pair(0, 0, 1, 0))
				}
				want, turned = append(want, pair(0, last, 1, 0)), append(turned, pair(0, 0, 1, last))
				want[len(want)-1].Triangle, turned[len(turned)-1].Triangle = triangle, triangle
				has(t, p, want...)
				has(t, q, turned...)
			}
		}
	}
	// The store must be the load's thread's, and ahead of it; the other thread's stores and fences count for nothing.
	has(t, of(t, "", "MOV EAX,[x]; MOV [y],$1", "MOV [z],$1; MOV [x],$1"), pair(0, 0, 1, 1))
	has(t, of(t, "", "MOV [y],$1; MOV EAX,[x]", "MFENCE; MOV [x],$1"), tri(0, 1, 1, 1))
	// Two stores, or a store and what is locked, are never triangular.
	has(t, of(t, "", "MOV [y],$1; MOV [x],$1", "MOV [z],$1; MOV [x],$1"), pair(0, 1, 1, 1))
	has(t, of(t, "", "MOV [y],$1; MOV [x],$1", "MOV [z],$1; LOCK XADD [x],EAX"), pair(0, 1, 1, 1))
	// Two loads are no race, whatever waits.
	has(t, of(t, "", "MOV [y],$1; MOV EAX,[x]", "MOV [z],$1; MOV EAX,[x]"))
}

// 29.1: races rise by thread and number of A, then of B.
func TestOrder(t *testing.T) {
	x, move := "MOV [x],$1;", strings.Repeat("MOV EAX,$1;", 9)
	has(t, of(t, "", x+x, move+x+x, x, x),
		pair(0, 0, 1, 9), pair(0, 0, 1, 10), pair(0, 0, 2, 0), pair(0, 0, 3, 0), pair(0, 1, 1, 9), pair(0, 1, 1, 10), pair(0, 1, 2, 0), pair(0, 1, 3, 0),
		pair(1, 9, 2, 0), pair(1, 9, 3, 0), pair(1, 10, 2, 0), pair(1, 10, 3, 0), pair(2, 0, 3, 0))
	has(t, of(t, "", "", x, "", x), pair(1, 0, 3, 0))
}

// 29.1: held against all states of the machine.
func TestFind(t *testing.T) {
	roll := dice(291)
	none, plain, triangular := 0, 0, 0
	for _, p := range smallProgs(t, roll, 900) {
		want := stateRaces(t, p)
		if text := textRaces(linesOf(t, p)); !slices.Equal(text, want) {
			t.Fatalf("%v: the text has the races %v, the states %v", p, text, want)
		}
		has(t, p, want...)
		for _, r := range want {
			if r.Triangle {
				triangular++
			} else {
				plain++
			}
		}
		if len(want) == 0 {
			none++
		}
	}
	if none < 50 || plain < 500 || triangular < 500 {
		t.Errorf("%d programs without races, %d triangular ones, %d others", none, triangular, plain)
	}
}

// 29.1: of great programs, whose states can't be gone through, held against the text.
func TestFindGreat(t *testing.T) {
	for _, p := range greatProgs(t) {
		has(t, p, textRaces(linesOf(t, p))...)
	}
}

// nearly is races that are none of a program's, made of one that is.
func nearly(r api.Race) []api.Race {
	l := []api.Race{{}, {Triangle: true}, {A: r.B, B: r.A, Triangle: r.Triangle}, {A: r.A, B: r.A, Triangle: r.Triangle}, {A: r.A, B: r.B, Triangle: !r.Triangle}}
	for _, part := range []int{0, api.WThread, api.WWatch, -1} {
		a, b := r, r
		a.A.Part, b.B.Part = part, part
		l = append(l, a, b)
	}
	for _, n := range []int{-1, 4, math.MinInt, math.MaxInt} {
		for i := range 4 {
			bad := r
			*[]*int{&bad.A.I, &bad.A.K, &bad.B.I, &bad.B.K}[i] = n
			if bad != r {
				l = append(l, bad)
			}
		}
	}
	return l
}

// 29.2: held against explore.Way of the whole machine; whatever is no race of the program is refused.
func TestWay(t *testing.T) {
	roll := dice(292)
	found, refused := 0, 0
	refuse := func(p api.Prog, r api.Race) {
		if l, e := race.Way(p, r); e != api.ErrNone || len(l) != 0 {
			t.Fatalf("Way(%v, %v): %v, %d", p, r, l, e)
		}
		refused++
	}
	for _, p := range smallProgs(t, roll, 400) {
		races := find(t, p)
		for _, r := range races {
			l, e := race.Way(p, r)
			if want := firstWay(t, p, r); e != api.OK || !slices.Equal(l, want) {
				t.Fatalf("Way(%v, %v): %v, %d; want %v", p, r, l, e, want)
			}
			found++
		}
		for _, r := range append(races, tri(0, 0, 1, 1)) {
			for _, bad := range nearly(r) {
				if !slices.Contains(races, bad) {
					refuse(p, bad)
				}
			}
		}
		for _, thread := range linesOf(t, p) {
			for _, x := range thread {
				r := api.Race{A: x.where(), B: at(1, 0)}
				if !slices.Contains(races, r) {
					refuse(p, r)
				}
			}
		}
	}
	if found < 600 || refused < 5000 {
		t.Errorf("%d ways, %d refused", found, refused)
	}
}

// 29.2: of great programs the ways are runs to both instructions, and none can be shorter.
func TestWayGreat(t *testing.T) {
	for n, p := range greatProgs(t) {
		lines, races := linesOf(t, p), find(t, p)
		for i := 0; i < len(races); i += 1 + len(races)/7 {
			r := races[i]
			l, e := race.Way(p, r)
			run, ok := runLines(t, p, l)
			if e != api.OK || !ok || len(run) != r.A.K+r.B.K {
				t.Fatalf("program %d: Way to %v: %d picks, %d, %v", n, r, len(l), e, ok)
			}
			done := map[int]int{}
			for _, x := range run {
				done[x.thread]++
			}
			if done[r.A.I] != r.A.K || done[r.B.I] != r.B.K || !conflict(lines[r.A.I][r.A.K], lines[r.B.I][r.B.K]) {
				t.Fatalf("program %d: Way to %v lets threads do %v", n, r, done)
			}
		}
	}
}

// 29.3: held against the printed instructions, of all pairs of instructions, races or none.
func TestText(t *testing.T) {
	for _, p := range append(knownProgs(t), greatProgs(t)[3:40]...) {
		lines := slices.Concat(linesOf(t, p)...)
		for _, a := range lines {
			for n, b := range lines {
				want := fmt.Sprintf("%d:%d %d:%d ", a.thread, a.number, b.thread, b.number)
				if loc := a.loc(); loc != "" {
					want += loc
				} else {
					want += "?"
				}
				r := api.Race{A: a.where(), B: b.where(), Triangle: n%2 == 1}
				if r.Triangle {
					want += " triangular"
				}
				if s := race.Text(p, r); s != want {
					t.Fatalf("Text(%v, %v): %q; want %q", p, r, s, want)
				}
			}
		}
	}
}

// 29.3: of whatever program and race.
func TestTextOfAnything(t *testing.T) {
	says := func(p api.Prog, a, b api.Where, want string) {
		t.Helper()
		for part := range 4 { // of what part the places are counts for nothing
			a.Part, b.Part = part, 3-part
			if s := race.Text(p, api.Race{A: a, B: b}); s != want {
				t.Errorf("Text(%v, %v %v): %q; want %q", p, a, b, s, want)
			}
			if s := race.Text(p, api.Race{A: a, B: b, Triangle: true}); s != want+" triangular" {
				t.Errorf("Text(%v, %v %v, triangular): %q; want %q", p, a, b, s, want+" triangular")
			}
		}
	}
	const least, most = "-9223372036854775808", "9223372036854775807"
	says(api.Prog{}, at(0, 0), at(0, 0), "0:0 0:0 ?")
	says(sb(t), at(5, 0), at(1, 1), "5:0 1:1 ?")
	says(sb(t), at(0, 0), at(5, -7), "0:0 5:-7 x")
	says(sb(t), at(1, 0), at(0, 0), "1:0 0:0 y")
	says(sb(t), at(1, 0), at(1, 0), "1:0 1:0 y")
	says(sb(t), at(2, 0), at(1, 0), "2:0 1:0 ?")
	says(sb(t), at(-1, 0), at(1, 0), "-1:0 1:0 ?")
	says(sb(t), at(0, 2), at(1, 0), "0:2 1:0 ?")
	says(sb(t), at(0, -1), at(1, 0), "0:-1 1:0 ?")
	says(sb(t), at(math.MinInt, math.MinInt), at(math.MaxInt, math.MaxInt), least+":"+least+" "+most+":"+most+" ?")
	says(sb(t), at(math.MaxInt, 0), at(0, math.MaxInt), most+":0 0:"+most+" ?")
	says(sb(t), at(0, math.MaxInt), at(0, 0), "0:"+most+" 0:0 ?")
	one := func(op api.Op, locs ...string) api.Prog { return api.Prog{Threads: [][]api.Op{{op}}, Locs: locs} }
	for kind := -1; kind <= 11; kind++ {
		want := "0:0 0:0 ?"
		if kind >= api.OLoad && kind <= api.OXadd && kind != api.OFence {
			want = "0:0 0:0 b"
		}
		says(one(api.Op{Kind: kind, Loc: 1, Reg: 77, Src: -4}, "z", "b", "a"), at(0, 0), at(0, 0), want)
		for _, loc := range []int{-1, 3, math.MinInt, math.MaxInt} {
			says(one(api.Op{Kind: kind, Loc: loc}, "z", "b", "a"), at(0, 0), at(0, 0), "0:0 0:0 ?")
		}
		says(one(api.Op{Kind: kind}), at(0, 0), at(0, 0), "0:0 0:0 ?")
	}
	odd := " x\n?\xff" + strings.Repeat("l", 100)
	says(one(api.Op{Kind: api.OStoreImm}, odd), at(0, 0), at(0, 1), "0:0 0:1 "+odd)
}

// lockedBy is a program with fences behind its stores, as the chapter says it.
func lockedBy(p api.Prog) api.Prog {
	q := wide(p)
	for i, thread := range p.Threads {
		q.Threads[i] = nil
		for _, op := range thread {
			q.Threads[i] = append(q.Threads[i], op)
			if op.Kind == api.OStoreImm || op.Kind == api.OStoreReg {
				q.Threads[i] = append(q.Threads[i], api.Op{Kind: api.OFence})
			}
		}
	}
	return q
}

// 29.4: all else stays as it is; a fence that stands behind a store already is one more.
func TestLock(t *testing.T) {
	roll := dice(294)
	locked, refused := 0, 0
	for _, p := range append(smallProgs(t, roll, 900), greatProgs(t)...) {
		q, e := race.Lock(p)
		want := lockedBy(p)
		if prog.Events(want) > api.MaxEvents {
			if e != api.ErrEvents || told(q) != told(api.Prog{}) {
				t.Fatalf("Lock(%.300s): %.300s, %d", told(p), told(q), e)
			}
			refused++
			continue
		}
		if e != api.OK || told(q) != told(want) || prog.Valid(q) != api.OK {
			t.Fatalf("Lock(%.300s): %.300s, %d; want %.300s", told(p), told(q), e, told(want))
		}
		locked++
	}
	if locked < 900 || refused < 2 {
		t.Errorf("%d locked, %d refused", locked, refused)
	}
}

// 29.4: how many events there may be.
func TestLockEvents(t *testing.T) {
	for _, c := range []struct {
		waits, stores int
		want          api.Errno
	}{{0, 31, api.OK}, {1, 31, api.OK}, {2, 31, api.ErrEvents}, {0, 32, api.ErrEvents}, {59, 2, api.OK}, {60, 2, api.ErrEvents}, {61, 1, api.OK}, {62, 1, api.ErrEvents}, {63, 0, api.OK}} {
		p := of(t, "x=0", strings.Repeat("MOV [x],$1;", c.stores/2)+wait(c.waits), strings.Repeat("MOV [x],EAX;", c.stores-c.stores/2))
		q, e := race.Lock(p)
		if e != c.want || e != api.OK && told(q) != told(api.Prog{}) || e == api.OK && prog.Events(q) != 1+c.waits+2*c.stores {
			t.Errorf("Lock of %d stores and %d fences: %d events, %d; want %d", c.stores, c.waits, prog.Events(q), e, c.want)
		}
	}
}

// refuses tells which error all calls but Text answer of a program, and that nothing comes with it.
func refuses(t *testing.T, what string, p api.Prog, want api.Errno) {
	t.Helper()
	if l, e := race.Find(p); e != want || len(l) != 0 {
		t.Errorf("Find, %s: %v, %d; want %d", what, l, e, want)
	}
	if ok, e := race.Free(p); e != want || ok {
		t.Errorf("Free, %s: %v, %d; want %d", what, ok, e, want)
	}
	if ok, e := race.Calm(p); e != want || ok {
		t.Errorf("Calm, %s: %v, %d; want %d", what, ok, e, want)
	}
	for _, r := range append(nearly(tri(0, 0, 1, 1)), tri(0, 0, 1, 1)) {
		if l, e := race.Way(p, r); e != want || len(l) != 0 {
			t.Errorf("Way(%v), %s: %v, %d; want %d", r, what, l, e, want)
		}
	}
	for _, l := range [][]api.Pick{nil, {{Kind: api.PStep}}, {{Thread: 9}}} {
		if x, e := race.Clocks(p, l); e != want || len(x) != 0 {
			t.Errorf("Clocks(%v), %s: %v, %d; want %d", l, what, x, e, want)
		}
		if x, e := race.Apart(p, l); e != want || len(x) != 0 {
			t.Errorf("Apart(%v), %s: %v, %d; want %d", l, what, x, e, want)
		}
	}
	if q, e := race.Lock(p); e != want || told(q) != told(api.Prog{}) {
		t.Errorf("Lock, %s: %v, %d; want %d", what, q, e, want)
	}
}

// Ahead of all else: prog.Valid's error.
func TestErrors(t *testing.T) {
	for what, p := range wrongProgs(t) {
		want := prog.Valid(p)
		if want == api.OK {
			t.Fatalf("%s: the program is right", what)
		}
		refuses(t, what, p, want)
	}
	refuses(t, "no thread", api.Prog{}, api.ErrThreads)
	events := sb(t)
	events.Threads[1] = append(events.Threads[1], slices.Repeat([]api.Op{{Kind: api.OFence}}, 59)...)
	refuses(t, "65 events", events, api.ErrEvents)
}

// R4: what is handed in is not changed, what is handed out is new memory.
func TestMemory(t *testing.T) {
	roll := dice(2904)
	for _, p := range smallProgs(t, roll, 150) {
		p, l := wide(p), wide(someRun(t, roll, p))
		ahead := whole(reflect.ValueOf(p)) + whole(reflect.ValueOf(l))
		races, again := find(t, p), find(t, p)
		q, e := race.Lock(p)
		q2, e2 := race.Lock(p)
		if e != api.OK || e2 != api.OK {
			t.Fatalf("Lock(%v): %d, %d", p, e, e2)
		}
		values := []any{p, l, races, again, q, q2}
		for range 2 {
			clocks, _ := race.Clocks(p, l)
			apart, _ := race.Apart(p, l)
			values = append(values, clocks, apart)
			for _, r := range races {
				way, _ := race.Way(p, r)
				values = append(values, way)
			}
		}
		race.Free(p)
		race.Calm(p)
		race.Text(p, tri(0, 0, 1, 1))
		if now := whole(reflect.ValueOf(p)) + whole(reflect.ValueOf(l)); now != ahead {
			t.Fatalf("what was handed in has changed: %s; it was %s", now, ahead)
		}
		unshared(t, values...)
	}
}

package event_test

import (
	"fmt"
	"math/bits"
	"reflect"
	"slices"
	"strings"
	"testing"

	"weir/api"
	"weir/event"
	"weir/print"
	"weir/prog"
)

// textsOf is a program's instructions as texts: what the oracle says is said of these.
func textsOf(t *testing.T, p api.Prog) [][]string {
	t.Helper()
	x, e := prog.Back(p)
	if e != api.OK {
		t.Fatalf("Back(%.300s): %d", fmt.Sprint(p), e)
	}
	texts := make([][]string, len(x.Threads))
	for i, l := range x.Threads {
		for _, in := range l {
			s, e := print.Instr(in)
			if e != api.OK {
				t.Fatalf("Instr(%v): %d", in, e)
			}
			texts[i] = append(texts[i], s)
		}
	}
	return texts
}

// listed is a program's events, by the texts of its instructions, and how many tries it has.
func listed(t *testing.T, p api.Prog, fails api.Set) ([]api.Event, int) {
	t.Helper()
	var l []api.Event
	for i := range p.Locs {
		l = append(l, api.Event{Kind: 1, Thread: -1, Index: 0, Loc: i, Locked: false})
	}
	n := 0
	for thread, texts := range textsOf(t, p) {
		for k, s := range texts {
			from, to := strings.Index(s, "["), strings.Index(s, "]")
			if s == "MFENCE" {
				l = append(l, api.Event{Kind: 4, Thread: thread, Index: k, Loc: -1})
			}
			if from < 0 {
				continue
			}
			loc := slices.Index(p.Locs, s[from+1:to])
			plain := strings.HasPrefix(s, "MOV ")
			if !strings.HasPrefix(s, "MOV [") {
				l = append(l, api.Event{Kind: 3, Thread: thread, Index: k, Loc: loc, Locked: !plain})
			}
			writes := !plain || strings.HasPrefix(s, "MOV [")
			if strings.Contains(s, "CMPXCHG") {
				writes = fails&(1<<n) == 0
				n++
			}
			if writes {
				l = append(l, api.Event{Kind: 2, Thread: thread, Index: k, Loc: loc, Locked: !plain})
			}
		}
	}
	return l, n
}

// holdList holds List against the texts.
func holdList(t *testing.T, p api.Prog, fails api.Set) {
	t.Helper()
	want, n := listed(t, p, fails)
	e := api.OK
	if fails >= 1<<n {
		want, e = nil, api.ErrRange
	}
	if l, err := event.List(p, fails); err != e || !slices.Equal(l, want) {
		t.Fatalf("List(%.300s, %b): %v, %d; want %v, %d", fmt.Sprint(p), fails, l, err, want, e)
	}
}

// 17.1: events of programs, whatever fails.
func TestList(t *testing.T) {
	roll, refused, most := dice(171), 0, 0
	for _, p := range someProgs(t, roll, 400) {
		_, n := listed(t, p, 0)
		if k, e := event.Tries(p); k != n || e != api.OK {
			t.Fatalf("Tries(%.300s): %d, %d; want %d", fmt.Sprint(p), k, e, n)
		}
		most = max(most, n)
		for fails := range api.Set(1) << min(n, 7) {
			holdList(t, p, fails)
		}
		holdList(t, p, 1<<n-1)
		for range 10 {
			holdList(t, p, api.Set(roll(1<<62))&(1<<n-1))
		}
		for bit := range 64 {
			holdList(t, p, 1<<bit)
			holdList(t, p, 1<<bit|1<<n>>1)
			if bit >= n {
				refused++
			}
		}
		holdList(t, p, ^api.Set(0))
	}
	if refused < 1000 || most != 31 {
		t.Errorf("%d sets refused, at most %d tries", refused, most)
	}
}

// 17.1: each kind of instruction written out, its numbers too.
func TestEachInstruction(t *testing.T) {
	for _, c := range []struct {
		text  string
		fails api.Set
		want  []api.Event
	}{
		{"MOV EAX,$1", 0, nil},
		{"MOV EAX,EBX", 0, nil},
		{"MOV EAX,[y]", 0, []api.Event{{Kind: api.ERead, Loc: 1}}},
		{"MOV [y],$2", 0, []api.Event{{Kind: api.EWrite, Loc: 1}}},
		{"MOV [x],EAX", 0, []api.Event{{Kind: api.EWrite, Loc: 0}}},
		{"MFENCE", 0, []api.Event{{Kind: api.EFence, Loc: -1}}},
		{"XCHG [y],EAX", 0, []api.Event{{Kind: api.ERead, Loc: 1, Locked: true}, {Kind: api.EWrite, Loc: 1, Locked: true}}},
		{"LOCK XADD [x],EAX", 0, []api.Event{{Kind: api.ERead, Loc: 0, Locked: true}, {Kind: api.EWrite, Loc: 0, Locked: true}}},
		{"LOCK CMPXCHG [y],EBX", 0, []api.Event{{Kind: api.ERead, Loc: 1, Locked: true}, {Kind: api.EWrite, Loc: 1, Locked: true}}},
		{"LOCK CMPXCHG [y],EBX", 1, []api.Event{{Kind: api.ERead, Loc: 1, Locked: true}}},
	} {
		p := of(t, "x=5; y=6", "MFENCE; MFENCE", "MFENCE; MOV ECX,$1;"+c.text)
		want := []api.Event{
			{Kind: api.EInit, Thread: -1, Loc: 0}, {Kind: api.EInit, Thread: -1, Loc: 1},
			{Kind: api.EFence, Thread: 0, Index: 0, Loc: -1}, {Kind: api.EFence, Thread: 0, Index: 1, Loc: -1},
			{Kind: api.EFence, Thread: 1, Index: 0, Loc: -1},
		}
		for _, e := range c.want {
			e.Thread, e.Index = 1, 2
			want = append(want, e)
		}
		if l, e := event.List(p, c.fails); e != api.OK || !slices.Equal(l, want) {
			t.Errorf("List of %s, %b: %v, %d; want %v", c.text, c.fails, l, e, want)
		}
	}
}

// 17.1: tries are counted thread by thread.
func TestWhichTry(t *testing.T) {
	p := of(t, "", "LOCK CMPXCHG [x],EBX; XCHG [x],EBX; LOCK CMPXCHG [y],EBX", "MOV EAX,$1", "LOCK CMPXCHG [x],EBX; LOCK XADD [x],EBX")
	if n, e := event.Tries(p); n != 3 || e != api.OK {
		t.Fatalf("Tries: %d, %d", n, e)
	}
	for fails, want := range map[api.Set]string{
		0: "i:x i:y 0:0:Rx* 0:0:Wx* 0:1:Rx* 0:1:Wx* 0:2:Ry* 0:2:Wy* 2:0:Rx* 2:0:Wx* 2:1:Rx* 2:1:Wx*",
		1: "i:x i:y 0:0:Rx* 0:1:Rx* 0:1:Wx* 0:2:Ry* 0:2:Wy* 2:0:Rx* 2:0:Wx* 2:1:Rx* 2:1:Wx*",
		2: "i:x i:y 0:0:Rx* 0:0:Wx* 0:1:Rx* 0:1:Wx* 0:2:Ry* 2:0:Rx* 2:0:Wx* 2:1:Rx* 2:1:Wx*",
		4: "i:x i:y 0:0:Rx* 0:0:Wx* 0:1:Rx* 0:1:Wx* 0:2:Ry* 0:2:Wy* 2:0:Rx* 2:1:Rx* 2:1:Wx*",
		7: "i:x i:y 0:0:Rx* 0:1:Rx* 0:1:Wx* 0:2:Ry* 2:0:Rx* 2:1:Rx* 2:1:Wx*",
	} {
		l, e := event.List(p, fails)
		if got := eventTexts(p, l); e != api.OK || got != want {
			t.Errorf("List, %b: %s, %d; want %s", fails, got, e, want)
		}
	}
	if l, e := event.List(p, 8); len(l) != 0 || e != api.ErrRange {
		t.Errorf("List, 8: %v, %d", l, e)
	}
}

func eventTexts(p api.Prog, l []api.Event) string {
	var texts []string
	for _, e := range l {
		texts = append(texts, event.Text(p, e))
	}
	return strings.Join(texts, " ")
}

// 17.1: programs that are not right; that comes ahead of what fails.
func TestWrongProgs(t *testing.T) {
	for what, p := range wrongProgs(t) {
		want := prog.Valid(p)
		if want == api.OK {
			t.Fatalf("%s: the program is right", what)
		}
		if n, e := event.Tries(p); n != 0 || e != want {
			t.Errorf("Tries of %s: %d, %d; want %d", what, n, e, want)
		}
		for _, fails := range []api.Set{0, 1, 1 << 63, ^api.Set(0)} {
			if l, e := event.List(p, fails); len(l) != 0 || e != want {
				t.Errorf("List of %s, %b: %v, %d; want %d", what, fails, l, e, want)
			}
		}
	}
}

// R4: what is handed in stays as it is, and what List answers is new each time.
func TestMemoryOfLists(t *testing.T) {
	roll := dice(1711)
	for _, p := range someProgs(t, roll, 60) {
		q := wide(p)
		before := whole(reflect.ValueOf(q))
		n, _ := event.Tries(q)
		first, _ := event.List(q, 1<<n-1)
		again, _ := event.List(q, 1<<n-1)
		event.Text(q, api.Event{Kind: api.ERead})
		event.Dot(q, api.Exec{Events: again})
		if after := whole(reflect.ValueOf(q)); after != before {
			t.Fatalf("%.300s has become %.300s", before, after)
		}
		want, _ := listed(t, p, 1<<n-1)
		spoil(reflect.ValueOf(&q).Elem())
		spoil(reflect.ValueOf(&first).Elem())
		if !slices.Equal(again, want) {
			t.Fatalf("List(%.300s): %v; want %v", fmt.Sprint(p), again, want)
		}
	}
}

// 17.6: a right program has at most 64 events, and each try that fails leaves one out.
func TestHowMany(t *testing.T) {
	roll, most := dice(176), 0
	for _, p := range someProgs(t, roll, 300) {
		n, _ := event.Tries(p)
		for range 20 {
			fails := api.Set(roll(1<<62)) & (1<<n - 1)
			l, e := event.List(p, fails)
			if e != api.OK || len(l) != prog.Events(p)-bits.OnesCount64(uint64(fails)) {
				t.Fatalf("List(%.300s, %b): %d events, %d", fmt.Sprint(p), fails, len(l), e)
			}
			most = max(most, len(l))
		}
		if l, e := event.List(p, 0); e != api.OK || len(l) > api.MaxEvents {
			t.Fatalf("List(%.300s): %d events, %d", fmt.Sprint(p), len(l), e)
		} else {
			most = max(most, len(l))
		}
	}
	if most != api.MaxEvents {
		t.Errorf("at most %d events", most)
	}
}

package allow_test

import (
	"iter"
	"math"
	"reflect"
	"slices"
	"sync"
	"testing"

	"weir/allow"
	"weir/api"
	"weir/cat"
	"weir/prog"
)

// eachOf is what Each answers of a right model and a right program.
func eachOf(t *testing.T, m api.Model, p api.Prog) iter.Seq[api.Exec] {
	t.Helper()
	it, e := allow.Each(m, p)
	if e != api.OK || it == nil {
		t.Fatalf("Each(%v, %v): %d", m, p, e)
	}
	return it
}

// asModel tells which error the calls with a model answer, and that nothing comes with it.
func asModel(t *testing.T, what string, m api.Model, p api.Prog, want api.Errno) {
	t.Helper()
	if it, e := allow.Each(m, p); e != want || it != nil {
		t.Errorf("Each, %s: %d; want %d", what, e, want)
	}
	if n, k, e := allow.Count(m, p); e != want || n != 0 || k != 0 {
		t.Errorf("Count, %s: %d %d %d; want %d", what, n, k, e, want)
	}
	if l, e := allow.Finals(m, p); e != want || len(l) != 0 {
		t.Errorf("Finals, %s: %v %d; want %d", what, l, e, want)
	}
	for _, f := range []api.Final{{}, {N: 4}, {N: -1}} {
		if x, e := allow.Show(m, p, f); e != want || told(x) != told(api.Exec{}) {
			t.Errorf("Show, %s: %v %d; want %d", what, x, e, want)
		}
	}
}

// asKind is the same for the calls with one of the three models.
func asKind(t *testing.T, what string, kind int, p api.Prog, want api.Errno) {
	t.Helper()
	if l, e := allow.Known(kind, p); e != want || len(l) != 0 {
		t.Errorf("Known, %d, %s: %v %d; want %d", kind, what, l, e, want)
	}
	if a, b, e := allow.Engines(kind, p); e != want || len(a) != 0 || len(b) != 0 {
		t.Errorf("Engines, %d, %s: %v %v %d; want %d", kind, what, a, b, e, want)
	}
}

// 22.1: the model's error, or ErrRange, comes ahead of the program's.
func TestErrors(t *testing.T) {
	for what, m := range wrongModels() {
		_, want := cat.Check(m)
		if want == api.OK {
			t.Fatalf("%s: the model is right", what)
		}
		asModel(t, what, m, sb(t), want)
		for bad, p := range wrongProgs(t) {
			asModel(t, what+", "+bad, m, p, want)
		}
	}
	for what, p := range wrongProgs(t) {
		want := prog.Valid(p)
		if want == api.OK {
			t.Fatalf("%s: the program is right", what)
		}
		asModel(t, what, api.Model{Name: "t"}, p, want)
		for _, kind := range kinds() {
			asModel(t, what, known(t, kind), p, want)
			asKind(t, what, kind, p, want)
		}
		for _, kind := range noKinds() {
			asKind(t, what, kind, p, api.ErrRange)
		}
	}
	for _, kind := range noKinds() {
		asKind(t, "SB", kind, sb(t), api.ErrRange)
	}
}

// 22.1: written out.
func TestErrorsWritten(t *testing.T) {
	right := api.Model{Name: "t"}
	events := sb(t)
	events.Threads[0] = append(events.Threads[0], slices.Repeat([]api.Op{{Kind: api.OFence}}, 59)...)
	op := sb(t)
	op.Threads[1][0].Loc = 2
	asModel(t, "no name, no thread", api.Model{}, api.Prog{}, api.ErrName)
	asModel(t, "an unknown name", api.Model{Name: "t", Rules: []api.Rule{{Kind: api.REmpty, Terms: []api.Term{{Op: api.XName, Name: "a"}}}}}, op, api.ErrScope)
	asModel(t, "no thread", right, api.Prog{}, api.ErrThreads)
	asModel(t, "65 events", right, events, api.ErrEvents)
	asModel(t, "no location", right, op, api.ErrOp)
	asKind(t, "no thread", api.MTSO, api.Prog{}, api.ErrThreads)
	asKind(t, "65 events", api.MPSO, events, api.ErrEvents)
	asKind(t, "no location", api.MSC, op, api.ErrOp)
	asKind(t, "no kind, no thread", 4, api.Prog{}, api.ErrRange)
}

// hold holds all that is said of a model and a program; it answers how many candidates there are, how many are allowed, and how many of the final states.
func hold(t *testing.T, m api.Model, p api.Prog) (int, int, int) {
	t.Helper()
	all, allowed := candidates(t, p), says(t, m, p)
	it := eachOf(t, m, p)
	for range 2 {
		if got := slices.Collect(it); !slices.Equal(tells(got), tells(allowed)) {
			t.Fatalf("Each(%v, %v): %v; want %v", m, p, got, allowed)
		}
	}
	if n, k, e := allow.Count(m, p); n != len(all) || k != len(allowed) || e != api.OK {
		t.Fatalf("Count(%v, %v): %d, %d, %d; want %d, %d", m, p, n, k, e, len(all), len(allowed))
	}
	finals := ends(allowed)
	if l, e := allow.Finals(m, p); e != api.OK || !slices.Equal(l, finals) {
		t.Fatalf("Finals(%v, %v): %v, %d; want %v", m, p, l, e, finals)
	}
	for _, f := range ends(all) {
		first := slices.IndexFunc(allowed, func(x api.Exec) bool { return endOf(x) == f })
		want, err := api.Exec{}, api.ErrNone
		if first >= 0 {
			want, err = allowed[first], api.OK
		}
		if x, e := allow.Show(m, p, f); e != err || told(x) != told(want) {
			t.Fatalf("Show(%v, %v, %v): %v, %d; want %v, %d", m, p, f, x, e, want, err)
		}
	}
	return len(all), len(allowed), len(finals)
}

// 22.2, 22.3: the calls with a model, of models of all kinds and of programs.
func TestModels(t *testing.T) {
	roll := dice(2221)
	none, some, whole, shared := 0, 0, 0, 0
	for _, p := range smallProgs(t, roll, 250, 300) {
		for _, m := range []api.Model{known(t, kinds()[roll(3)]), someChecks(t, roll), someChecks(t, roll), someModel(t, roll, 1+roll(4), 3)} {
			all, allowed, finals := hold(t, m, p)
			switch allowed {
			case 0:
				none++
			case all:
				whole++
			default:
				some++
			}
			if finals < allowed {
				shared++
			}
		}
	}
	if none < 100 || some < 200 || whole < 100 || shared < 100 {
		t.Errorf("models that allow none: %d, some: %d, all: %d; two candidates have one final state: %d", none, some, whole, shared)
	}
}

// 22.3: final states of no candidate.
func TestShowNone(t *testing.T) {
	p := sb(t)
	f := api.Final{N: 4, V: [api.MaxFinal]int64{0, 0, 1, 1}}
	if _, e := allow.Show(api.Model{Name: "t"}, p, f); e != api.OK {
		t.Fatalf("Show of both EAX 0: %d", e)
	}
	for what, turn := range map[string]func(*api.Final){
		"nothing":        func(f *api.Final) { *f = api.Final{} },
		"a value less":   func(f *api.Final) { f.N-- },
		"a value more":   func(f *api.Final) { f.N++ },
		"48 values":      func(f *api.Final) { f.N = api.MaxFinal },
		"too many":       func(f *api.Final) { f.N = api.MaxFinal + 1 },
		"far too many":   func(f *api.Final) { f.N = math.MaxInt },
		"below 0":        func(f *api.Final) { f.N = math.MinInt },
		"one behind":     func(f *api.Final) { f.V[4] = 1 },
		"one at the end": func(f *api.Final) { f.V[47] = 1 },
		"another value":  func(f *api.Final) { f.V[3] = 0 },
		"a strange one":  func(f *api.Final) { f.V[0] = math.MinInt64 },
	} {
		g := f
		turn(&g)
		if x, e := allow.Show(api.Model{Name: "t"}, p, g); e != api.ErrNone || told(x) != told(api.Exec{}) {
			t.Errorf("Show, %s: %v, %d", what, x, e)
		}
	}
	// A program without values has one final state, and it is the zero one.
	if x, e := allow.Show(known(t, api.MSC), bare(2), api.Final{}); e != api.OK || len(x.Regs) != 2 {
		t.Errorf("Show of a bare program: %v, %d", x, e)
	}
}

// 22.2, R7: left at any place, gone through again, and within itself.
func TestLeft(t *testing.T) {
	roll := dice(2222)
	for _, p := range smallProgs(t, roll, 80, 60) {
		m := someChecks(t, roll)
		want := tells(says(t, m, p))
		it := eachOf(t, m, p)
		for n := range len(want) {
			var got []string
			for x := range it {
				if got = append(got, told(x)); len(got) == n+1 {
					break
				}
			}
			if !slices.Equal(got, want[:n+1]) {
				t.Fatalf("the first %d of Each(%v, %v): %v; want %v", n+1, m, p, got, want[:n+1])
			}
		}
		outer := 0
		for x := range it {
			if told(x) != want[outer] || !slices.Equal(tells(slices.Collect(it)), want) {
				t.Fatalf("Each(%v, %v), within itself: %v; want %v", m, p, x, want)
			}
			outer++
		}
		next, stop := iter.Pull(it)
		if x, ok := next(); ok != (len(want) > 0) || ok && told(x) != want[0] {
			t.Fatalf("pulled of Each(%v, %v): %v %v", m, p, x, ok)
		}
		stop()
	}
}

// 22.2: a program of more candidates than can be gone through: the first ones come, as far as they are asked for.
func TestLeftEarly(t *testing.T) {
	p := of(t, "", "MOV EAX,[x]; MOV EAX,[x]; MOV EAX,[x]; MOV EAX,[x]; MOV EAX,[x]; MOV EAX,[x]; MOV EAX,[x]; MOV EAX,[x]",
		"MOV [x],$1; MOV [x],$2; MOV [x],$3; MOV [x],$4; MOV [x],$5; MOV [x],$6; MOV [x],$7; MOV [x],$8; MOV [x],$9; MOV [x],$10; MOV [x],$11; MOV [x],$12; MOV [x],$13")
	for _, m := range []api.Model{known(t, api.MSC), known(t, api.MTSO), {Name: "t"}} {
		for x := range eachOf(t, m, p) {
			if !slices.Equal(x.Order[0], []int{0, 9, 10, 11, 12, 13, 14, 15, 16, 17, 18, 19, 20, 21}) || x.From[8] != 0 {
				t.Errorf("the first that %s allows: %v", m.Name, x)
			}
			if y, e := allow.Show(m, p, endOf(x)); e != api.OK || told(y) != told(x) {
				t.Errorf("Show by %s: %v, %d; want %v", m.Name, y, e, x)
			}
			break
		}
	}
}

// 22.2, 22.5, R4: nothing is changed or kept, and answers share no memory.
func TestMemory(t *testing.T) {
	roll := dice(2225)
	for _, q := range smallProgs(t, roll, 100, 60) {
		n := someChecks(t, roll)
		want := tells(says(t, n, q))
		m, p := wide(n), wide(q)
		before := whole(reflect.ValueOf(m)) + whole(reflect.ValueOf(p))
		it := eachOf(t, m, p)
		lists := []any{m, p}
		for range 2 {
			for x := range it {
				lists = append(lists, x)
			}
			finals, _ := allow.Finals(m, p)
			lists = append(lists, finals)
			for _, f := range finals {
				x, _ := allow.Show(m, p, f)
				lists = append(lists, x)
			}
			for _, kind := range kinds() {
				l, _ := allow.Known(kind, p)
				a, b, _ := allow.Engines(kind, p)
				lists = append(lists, l, a, b)
			}
			allow.Count(m, p)
		}
		if after := whole(reflect.ValueOf(m)) + whole(reflect.ValueOf(p)); after != before {
			t.Fatalf("what was handed in has changed: %s; it was %s", after, before)
		}
		apart(t, lists...)
		spoil(reflect.ValueOf(&m).Elem())
		spoil(reflect.ValueOf(&p).Elem())
		var got []string
		for x := range it {
			got = append(got, told(x))
			spoil(reflect.ValueOf(&x).Elem())
		}
		if !slices.Equal(got, want) {
			t.Fatalf("Each of a model and a program that have changed: %v; want %v", got, want)
		}
	}
}

// R5: many may go through at once.
func TestAtOnce(t *testing.T) {
	p := of(t, "0:EBX=1; 1:EBX=2", "LOCK CMPXCHG [x],EBX; MOV EAX,[x]", "LOCK CMPXCHG [x],EBX; MOV [x],$3")
	m := known(t, api.MTSO)
	want, finals := tells(says(t, m, p)), ends(says(t, m, p))
	it := eachOf(t, m, p)
	var group sync.WaitGroup
	for range 8 {
		group.Go(func() {
			if got := tells(slices.Collect(it)); !slices.Equal(got, want) {
				t.Errorf("Each: %v; want %v", got, want)
			}
			if l, e := allow.Known(api.MTSO, p); e != api.OK || !slices.Equal(l, finals) {
				t.Errorf("Known: %v, %d; want %v", l, e, finals)
			}
		})
	}
	group.Wait()
}

// The chapter's examples.
func TestExamples(t *testing.T) {
	none := api.Model{Name: "t"}
	for _, c := range []struct {
		p    api.Prog
		m    api.Model
		want int
	}{
		{sb(t), known(t, api.MSC), 3}, {sb(t), known(t, api.MTSO), 4}, {sb(t), known(t, api.MPSO), 4}, {sb(t), none, 4},
		{mp(t), known(t, api.MSC), 3}, {mp(t), known(t, api.MTSO), 3}, {mp(t), known(t, api.MPSO), 4}, {mp(t), none, 4},
		{sb(t), parsed(t, "t acyclic po | rf | co | fr"), 3},
	} {
		if n, k, e := allow.Count(c.m, c.p); n != 4 || k != c.want || e != api.OK {
			t.Errorf("Count(%s, %v): %d, %d, %d; want %d", c.m.Name, c.p, n, k, e, c.want)
		}
		if l, e := allow.Finals(c.m, c.p); len(l) != c.want || e != api.OK {
			t.Errorf("Finals(%s, %v): %v, %d; want %d", c.m.Name, c.p, l, e, c.want)
		}
	}
	f := api.Final{N: 4, V: [api.MaxFinal]int64{0, 0, 1, 1}}
	if x, e := allow.Show(known(t, api.MTSO), sb(t), f); e != api.OK || !slices.Equal(x.From, []int{-1, -1, -1, 1, -1, 0}) || !slices.EqualFunc(x.Order, [][]int{{0, 2}, {1, 4}}, slices.Equal) {
		t.Errorf("Show by TSO: %v, %d", x, e)
	}
	if _, e := allow.Show(known(t, api.MSC), sb(t), f); e != api.ErrNone {
		t.Errorf("Show by SC: %d", e)
	}
}

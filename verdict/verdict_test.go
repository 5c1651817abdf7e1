package verdict_test

import (
	"math"
	"reflect"
	"slices"
	"strings"
	"sync"
	"testing"

	"weir/api"
	"weir/prog"
	"weir/verdict"
)

// refused tells which error the calls with a test and a set answer, and that nothing comes with it.
func refused(t *testing.T, what string, x api.Test, l []api.Final, want api.Errno) {
	t.Helper()
	if n, k, e := verdict.Count(x, l); e != want || n != 0 || k != 0 {
		t.Errorf("Count, %s: %d, %d, %d; want %d", what, n, k, e, want)
	}
	if ok, e := verdict.Ok(x, l); e != want || ok {
		t.Errorf("Ok, %s: %v, %d; want %d", what, ok, e, want)
	}
	if a, b, e := verdict.Split(x, l); e != want || len(a) != 0 || len(b) != 0 {
		t.Errorf("Split, %s: %v, %v, %d; want %d", what, a, b, e, want)
	}
	if refs, seen, e := verdict.Seen(x, l); e != want || len(refs) != 0 || len(seen) != 0 {
		t.Errorf("Seen, %s: %v, %v, %d; want %d", what, refs, seen, e, want)
	}
	if s, e := verdict.Report(x, l); e != want || s != "" {
		t.Errorf("Report, %s: %q, %d; want %d", what, s, e, want)
	}
	if len(l) == 1 { // of a longer list each member by itself may be right
		if ok, e := verdict.Holds(x, l[0]); e != want || ok {
			t.Errorf("Holds, %s: %v, %d; want %d", what, ok, e, want)
		}
	}
}

// 23.1: the test's error comes ahead of the set's.
func TestErrors(t *testing.T) {
	for what, x := range wrongTests(t) {
		_, want := prog.Check(x)
		if want == api.OK {
			t.Fatalf("%s: nothing is wrong", what)
		}
		refused(t, what, x, nil, want)
		refused(t, what, x, four(), want)
		refused(t, what, x, four()[:1], want)
		for bad, l := range wrongSets() {
			refused(t, what+", "+bad, x, l, want)
		}
	}
	for _, quant := range []string{"exists ", "~exists ", "forall "} {
		for _, c := range []string{"true", "~true", bothZero, "x=1"} {
			for what, l := range wrongSets() {
				refused(t, what, sb(t, quant+c), l, api.ErrSet)
			}
		}
	}
}

// 23.1: written out.
func TestErrorsWritten(t *testing.T) {
	wrong := wrongTests(t)
	for what, want := range map[string]api.Errno{
		"no thread": api.ErrThreads, "five threads": api.ErrThreads, "65 settings": api.ErrLong, "a setting twice": api.ErrTwice,
		"many events": api.ErrEvents, "an unknown one watched": api.ErrUnknown, "no condition": api.ErrCond, "a deep condition": api.ErrDepth,
		"an unknown one asked for": api.ErrUnknown, "the quantifier 0": api.ErrOp, "the quantifier 4": api.ErrOp, "no name": api.ErrName, "a quote": api.ErrToken,
	} {
		refused(t, what, wrong[what], []api.Final{of(0, 0, 1)}, want)
		refused(t, what, wrong[what], four(), want)
	}
}

// 23.1: what is fitting hangs on the test's program, not on what is looked at.
func TestFitting(t *testing.T) {
	bare := parsed(t, "X86 t { } P0 ; exists true")
	for n := range 50 {
		f := api.Final{N: n}
		for _, c := range []struct {
			x    api.Test
			want int
		}{{bare, 0}, {sb(t, "exists "+bothZero), 4}, {sb(t, "forall true"), 4}, {full(), 48}} {
			want := api.ErrSet
			if n == c.want {
				want = api.OK
			}
			if _, e := verdict.Holds(c.x, f); e != want {
				t.Errorf("Holds(%s) of %d values: %d; want %d", c.x.Name, n, e, want)
			}
			if _, e := verdict.Value(progOf(t, c.x), f, api.Ref{}); n != c.want && e != api.ErrSet || n == c.want && e != api.ErrUnknown {
				t.Errorf("Value(%s) of %d values: %d", c.x.Name, n, e)
			}
		}
	}
}

// 23.1: what each name has, of few names and of many.
func TestValue(t *testing.T) {
	roll := dice(231)
	tests := []api.Test{full(), sb(t, "exists true"), parsed(t, "X86 t { } P0 ; exists true")}
	for len(tests) < 300 {
		tests = append(tests, someTest(roll))
	}
	for _, x := range tests {
		p := progOf(t, x)
		names := prog.Names(p)
		f := api.Final{N: len(names)}
		for i := range names {
			f.V[i] = int64(roll(1000)) - 500
		}
		for i, r := range names {
			if v, e := verdict.Value(p, f, r); v != f.V[i] || e != api.OK {
				t.Fatalf("Value(%v, %v, %v): %d, %d; want %d", p, f, r, v, e, f.V[i])
			}
		}
		for _, r := range strangeRefs() {
			if slices.Contains(names, r) {
				continue
			}
			if v, e := verdict.Value(p, f, r); v != 0 || e != api.ErrUnknown {
				t.Fatalf("Value(%v, %v, %v): %d, %d", p, f, r, v, e)
			}
		}
	}
}

// strangeRefs is references that few programs have.
func strangeRefs() []api.Ref {
	l := []api.Ref{{}, loc(""), loc("x "), loc("0:EAX"), loc("RAX"), loc("EBX"), loc("z"), loc(strings.Repeat("n", 65)), loc(strings.Repeat("x", 1<<21))}
	for _, k := range []int{math.MinInt, -2, 0, 1, 2, 3, 4, 9999, math.MaxInt} {
		l = append(l, reg(k, "EAX"), reg(k, "x"), reg(k, ""), reg(k, "R8"), reg(k, "eax"))
	}
	return l
}

// 23.1: the program's error, then the set's, then the reference's.
func TestValueErrors(t *testing.T) {
	p := progOf(t, sb(t, "exists true"))
	for what, turn := range map[string]func(*api.Prog){
		"nothing":             func(p *api.Prog) { *p = api.Prog{} },
		"no thread":           func(p *api.Prog) { p.Threads = nil },
		"a thread more":       func(p *api.Prog) { p.Threads = append(p.Threads, nil) },
		"a register's value":  func(p *api.Prog) { p.RegInit[0] = nil },
		"no register's name":  func(p *api.Prog) { p.Regs[1][0] = "x" },
		"locations that fall": func(p *api.Prog) { p.Locs = []string{"y", "x"} },
		"a location's value":  func(p *api.Prog) { p.LocInit = nil },
		"no instruction":      func(p *api.Prog) { p.Threads[0][0].Kind = 0 },
		"no such location":    func(p *api.Prog) { p.Threads[0][0].Loc = 2 },
		"many events": func(p *api.Prog) {
			p.Threads[0] = slices.Repeat([]api.Op{{Kind: api.OFence}}, 61)
		},
	} {
		q := wide(p)
		turn(&q)
		want := prog.Valid(q)
		if want == api.OK {
			t.Fatalf("%s: nothing is wrong", what)
		}
		for _, f := range []api.Final{of(0, 1, 1, 1), of(), of(0, 1, 1), {N: -1}, {N: 49}} {
			for _, r := range []api.Ref{loc("x"), reg(0, "EAX"), loc("z")} {
				if v, e := verdict.Value(q, f, r); v != 0 || e != want {
					t.Errorf("Value, %s: %d, %d; want %d", what, v, e, want)
				}
			}
		}
	}
	for what, l := range wrongSets() {
		if len(l) > 1 {
			continue
		}
		for _, r := range []api.Ref{loc("x"), reg(0, "EAX"), loc("z"), {}} {
			if v, e := verdict.Value(p, l[0], r); v != 0 || e != api.ErrSet {
				t.Errorf("Value, %s: %d, %d; want ErrSet", what, v, e)
			}
		}
	}
	if v, e := verdict.Value(api.Prog{}, of(0, 1, 1, 1), loc("x")); v != 0 || e != api.ErrThreads {
		t.Errorf("Value of no program: %d, %d", v, e)
	}
}

// hold holds all that is said of a test and a set that fits; it answers Count's numbers and the size of Seen.
func hold(t *testing.T, x api.Test, l []api.Final) (int, int, int) {
	t.Helper()
	p := progOf(t, x)
	with, without := saysSplit(x, p, l)
	for _, f := range l {
		if ok, e := verdict.Holds(x, f); ok != slices.Contains(with, f) || e != api.OK {
			t.Fatalf("Holds(%s): %v, %d", short(x, f), ok, e)
		}
	}
	n, k, e := verdict.Count(x, l)
	if n != len(with) || k != len(without) || e != api.OK {
		t.Fatalf("Count(%s): %d, %d, %d; want %d, %d", short(x, l), n, k, e, len(with), len(without))
	}
	if a, b, e := verdict.Split(x, l); !slices.Equal(a, with) || !slices.Equal(b, without) || e != api.OK {
		t.Fatalf("Split(%s): %v, %v, %d; want %v, %v", short(x, l), a, b, e, with, without)
	}
	if ok, e := verdict.Ok(x, l); ok != saysOk(x, p, l) || e != api.OK {
		t.Fatalf("Ok(%s): %v, %d", short(x, l), ok, e)
	}
	refs, seen, e := verdict.Seen(x, l)
	if !slices.Equal(refs, saysLooks(x)) || !slices.Equal(seen, saysSeen(x, p, l)) || e != api.OK {
		t.Fatalf("Seen(%s): %v, %v, %d; want %v, %v", short(x, l), refs, seen, e, saysLooks(x), saysSeen(x, p, l))
	}
	if s, e := verdict.Report(x, l); s != saysReport(x, p, l) || e != api.OK {
		t.Fatalf("Report(%s): %s, %d; want %s", short(x, l), s, e, saysReport(x, p, l))
	}
	return n, k, len(seen)
}

// 23.2 to 23.5: unruly tests, and sets of all sizes.
func TestAll(t *testing.T) {
	roll := dice(232)
	never, always, sometimes, fewer, nothing := 0, 0, 0, 0, 0
	for range 4000 {
		x := someTest(roll)
		l := someSet(roll, len(prog.Names(progOf(t, x))), pick(roll, []int{0, 1, 4, 30}))
		n, k, seen := hold(t, x, l)
		switch {
		case n == 0 && k == 0:
			nothing++
		case n == 0:
			never++
		case k == 0:
			always++
		default:
			sometimes++
		}
		if seen < len(l) {
			fewer++
		}
	}
	if never < 300 || always < 300 || sometimes < 300 || fewer < 300 || nothing < 300 {
		t.Errorf("never %d, always %d, sometimes %d; no final states: %d; fewer are seen: %d", never, always, sometimes, nothing, fewer)
	}
}

// 23.2 to 23.5: as many names as there may be, of which all are looked at, or some.
func TestFull(t *testing.T) {
	roll := dice(233)
	x := full()
	names := prog.Names(progOf(t, x))
	if len(names) != api.MaxFinal {
		t.Fatalf("%d names", len(names))
	}
	for _, n := range []int{0, 1, 24, 47, 48} {
		x.Watch = some(roll, names, n)
		x.Cond = someCond(roll, names, 1+roll(60))
		x.Quant = 1 + roll(3)
		hold(t, x, someSet(roll, 48, 40))
		hold(t, x, nil)
	}
	x.Watch, x.Cond = nil, long(names[20:24], 512)
	if n, k, _ := hold(t, x, someSet(roll, 48, 200)); n == 0 || k == 0 || len(x.Cond) != 1023 {
		t.Errorf("%d nodes hold of %d, not of %d", len(x.Cond), n, k)
	}
}

// long is a condition of so many leaves: that one of the names has 2.
func long(names []api.Ref, leaves int) api.Cond {
	c := api.Cond{is(names[0], 2)}
	for i := 1; i < leaves; i++ {
		c = append(c, is(names[i%len(names)], 2))
		c = append(c, api.Node{Op: api.COr, A: len(c) - 2, B: len(c) - 1})
	}
	return c
}

// 23.4: which come first, byte by byte; each once; a location that is named as a register is.
func TestSeenOrder(t *testing.T) {
	x := parsed(t, `X86 t { EAX=1; x=2; X=3; a.b=4; a=5; _=6; 0:EAX=7; 0:R8=8; 0:R10=9; 1:EAX=10; 1:EBP=11; 2:EAX=12 } P0 | P1 | P2 ;
		locations [x; 1:EAX; EAX; 0:R8; a.b; 2:EAX; _;] forall 1:EBP=11 /\ (a=5 \/ X=3) /\ 0:R10=9 /\ 1:EAX=10 /\ ~a=6 /\ 0:EAX=7 /\ x=2`)
	l := []api.Final{prog.First(progOf(t, x))}
	refs, seen, e := verdict.Seen(x, l)
	want := []api.Ref{reg(0, "EAX"), reg(0, "R10"), reg(0, "R8"), reg(1, "EAX"), reg(1, "EBP"), reg(2, "EAX"), loc("EAX"), loc("X"), loc("_"), loc("a"), loc("a.b"), loc("x")}
	if e != api.OK || !slices.Equal(refs, want) || !slices.Equal(seen, []api.Final{of(7, 9, 8, 10, 11, 12, 1, 3, 6, 5, 4, 2)}) {
		t.Errorf("Seen: %v, %v, %d", refs, seen, e)
	}
	if ok, e := verdict.Ok(x, l); !ok || e != api.OK {
		t.Errorf("Ok: %v, %d", ok, e)
	}
	if refs, seen, e := verdict.Seen(x, nil); e != api.OK || !slices.Equal(refs, want) || len(seen) != 0 {
		t.Errorf("Seen of no final states: %v, %v, %d", refs, seen, e)
	}
}

// 23.4: what is seen has an order of its own, and what looks alike is seen once.
func TestSeenOnce(t *testing.T) {
	x := sb(t, "exists y=1")
	refs, seen, e := verdict.Seen(x, four())
	if e != api.OK || !slices.Equal(refs, []api.Ref{loc("y")}) || !slices.Equal(seen, []api.Final{of(1)}) {
		t.Errorf("Seen of y: %v, %v, %d", refs, seen, e)
	}
	x = sb(t, "exists 1:EAX=5")
	if _, seen, e := verdict.Seen(x, []api.Final{of(0, 3, 1, 1), of(1, -1, 1, 1), of(2, 3, 1, 1)}); e != api.OK || !slices.Equal(seen, []api.Final{of(-1), of(3)}) {
		t.Errorf("Seen of 1:EAX: %v, %d", seen, e)
	}
	x = sb(t, "exists true")
	if refs, seen, e := verdict.Seen(x, four()); e != api.OK || len(refs) != 0 || !slices.Equal(seen, []api.Final{{}}) {
		t.Errorf("Seen of nothing: %v, %v, %d", refs, seen, e)
	}
	if refs, seen, e := verdict.Seen(x, nil); e != api.OK || len(refs) != 0 || len(seen) != 0 {
		t.Errorf("Seen of nothing, of no final states: %v, %v, %d", refs, seen, e)
	}
}

// crossed is what Cross answers of two sets.
func crossed(t *testing.T, a, b []api.Final) (api.Final, int) {
	t.Helper()
	f, n, e := verdict.Cross(a, b)
	if e != api.OK {
		t.Fatalf("Cross(%v, %v): %d", a, b, e)
	}
	return f, n
}

// 23.6: sets of final states of all sizes.
func TestCross(t *testing.T) {
	roll := dice(236)
	members := []api.Final{of(), of(0), of(1), of(-1), of(0, 0), of(0, 1), of(math.MinInt64, 1), {N: 48}}
	var sets [][]api.Final
	for bits := range 1 << len(members) {
		var l []api.Final
		for i, f := range members {
			if bits>>i&1 == 1 {
				l = append(l, f)
			}
		}
		sets = append(sets, setOf(l))
	}
	for range 300 {
		sets = append(sets, someSet(roll, 2, 20))
	}
	for _, a := range sets {
		for _, b := range sets {
			f, n := crossed(t, a, b)
			if want, k := saysCross(a, b); f != want || n != k {
				t.Fatalf("Cross(%v, %v): %v, %d; want %v, %d", a, b, f, n, want, k)
			}
		}
	}
}

// 23.6: written out; the zero final state may be a member.
func TestCrossWritten(t *testing.T) {
	for _, c := range []struct {
		a, b []api.Final
		f    api.Final
		n    int
	}{
		{nil, nil, of(), 0},
		{[]api.Final{}, nil, of(), 0},
		{[]api.Final{of()}, nil, of(), 1},
		{nil, []api.Final{of()}, of(), 2},
		{[]api.Final{of()}, []api.Final{of()}, of(), 0},
		{four(), four()[1:], of(0, 0, 1, 1), 1},
		{four()[1:], four(), of(0, 0, 1, 1), 2},
		{four(), four()[:3], of(1, 1, 1, 1), 1},
		{four()[:3], four(), of(1, 1, 1, 1), 2},
		{[]api.Final{of(5)}, []api.Final{of(1, 1)}, of(5), 1},
		{[]api.Final{of(1)}, []api.Final{of(-1)}, of(-1), 2},
		{[]api.Final{of(1), of(2), of(9)}, []api.Final{of(1), of(3), of(4)}, of(2), 1},
	} {
		if f, n := crossed(t, c.a, c.b); f != c.f || n != c.n {
			t.Errorf("Cross(%v, %v): %v, %d; want %v, %d", c.a, c.b, f, n, c.f, c.n)
		}
	}
}

// 23.6: lists that are no sets, on either side.
func TestCrossErrors(t *testing.T) {
	for what, l := range map[string][]api.Final{
		"twice": {of(1), of(1)}, "falling": {of(1), of(0)}, "by N": {of(0, 0), of(1)}, "at the end": {of(1), of(2), of(3), of(3)},
		"N -1": {{N: -1}}, "N 49": {{N: 49}}, "one behind": {{N: 0, V: [48]int64{1}}}, "one at the end": {{N: 47, V: [48]int64{47: 1}}},
	} {
		for _, other := range [][]api.Final{nil, four(), l, {of(1)}} {
			if f, n, e := verdict.Cross(l, other); f != of() || n != 0 || e != api.ErrSet {
				t.Errorf("Cross, %s, first: %v, %d, %d", what, f, n, e)
			}
			if f, n, e := verdict.Cross(other, l); f != of() || n != 0 || e != api.ErrSet {
				t.Errorf("Cross, %s, second: %v, %d, %d", what, f, n, e)
			}
		}
	}
}

// R4: nothing is changed or kept, and answers share no memory.
func TestMemory(t *testing.T) {
	roll := dice(234)
	for range 300 {
		y := someTest(roll)
		q := progOf(t, y)
		x, p, l, m := wide(y), wide(q), wide(someSet(roll, len(prog.Names(q)), 6)), wide(someSet(roll, len(prog.Names(q)), 6))
		told := func() string {
			s := ""
			for _, v := range []any{x, p, l, m} {
				s += whole(reflect.ValueOf(v))
			}
			return s
		}
		before := told()
		lists := []any{x, p, l, m}
		for range 2 {
			a, b, _ := verdict.Split(x, l)
			refs, seen, _ := verdict.Seen(x, l)
			lists = append(lists, a, b, refs, seen)
			verdict.Count(x, l)
			verdict.Ok(x, l)
			verdict.Report(x, l)
			verdict.Cross(l, m)
			for _, f := range l {
				verdict.Holds(x, f)
				verdict.Value(p, f, pick(roll, append(prog.Names(p), api.Ref{})))
			}
		}
		if after := told(); after != before {
			t.Fatalf("what was handed in has changed: %s; it was %s", after, before)
		}
		apart(t, lists...)
	}
}

// R5: many may ask at once.
func TestAtOnce(t *testing.T) {
	x, l := sb(t, "exists "+bothZero), four()
	want := saysReport(x, progOf(t, x), l)
	var group sync.WaitGroup
	for range 8 {
		group.Go(func() {
			for range 50 {
				if s, e := verdict.Report(x, l); s != want || e != api.OK {
					t.Errorf("Report: %s, %d; want %s", s, e, want)
				}
			}
		})
	}
	group.Wait()
}

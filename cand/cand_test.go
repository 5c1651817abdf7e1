package cand_test

import (
	"fmt"
	"math"
	"math/bits"
	"reflect"
	"slices"
	"strings"
	"testing"

	"weir/api"
	"weir/cand"
	"weir/event"
	"weir/prog"
)

// 18.1: prog.Valid's error comes first, whatever else is wrong.
func TestWrongProgs(t *testing.T) {
	for what, p := range wrongProgs(t) {
		want := prog.Valid(p)
		if want == api.OK {
			t.Fatalf("%s: the program is right", what)
		}
		for _, fails := range []api.Set{0, 1, math.MaxUint64} {
			if l, r, e := cand.Resolve(p, fails, []int{7}); e != want || l != nil || r != nil {
				t.Errorf("Resolve, %s: %v %v %d; want %d", what, l, r, e, want)
			}
			if n, e := cand.Space(p, fails); e != want || n != 0 {
				t.Errorf("Space, %s: %d %d; want %d", what, n, e, want)
			}
		}
		if it, e := cand.All(p); e != want || it != nil {
			t.Errorf("All, %s: %d; want %d", what, e, want)
		}
		for _, x := range []api.Exec{{}, {Events: make([]api.Event, 70), From: []int{99}, Order: [][]int{{-1}, nil}}} {
			if e := cand.Check(p, x); e != want {
				t.Errorf("Check, %s: %d; want %d", what, e, want)
			}
			if f, e := cand.End(p, x); e != want || f != (api.Final{}) {
				t.Errorf("End, %s: %v %d; want %d", what, f, e, want)
			}
		}
		for _, order := range [][]int{nil, {0}, {-1, 9}} {
			if x, e := cand.Run(p, order); e != want || !reflect.DeepEqual(x, api.Exec{}) {
				t.Errorf("Run, %s: %v %d; want %d", what, x, e, want)
			}
		}
	}
}

// 18.1: sets of tries that there are not; the error comes ahead of ErrExec and ErrCount.
func TestWrongFails(t *testing.T) {
	progs := []api.Prog{sb(t), bare(1), of(t, "", "LOCK CMPXCHG [x],EBX"), all(t), tries(t)}
	for _, p := range progs {
		n, _ := event.Tries(p)
		for _, fails := range []api.Set{0, 1 << n, 1<<n - 1, 1<<n | 1, 1 << 63, math.MaxUint64, 1 << (n + 1)} {
			want := api.OK
			if fails>>n != 0 {
				want = api.ErrRange
			}
			if l, r, e := cand.Resolve(p, fails, nil); want == api.ErrRange && (e != want || l != nil || r != nil) {
				t.Errorf("Resolve with %d tries, fails %x: %v %v %d; want %d", n, fails, l, r, e, want)
			}
			if k, e := cand.Space(p, fails); e == api.ErrRange != (want == api.ErrRange) || e != api.OK && k != 0 {
				t.Errorf("Space with %d tries, fails %x: %d %d; want %d", n, fails, k, e, want)
			}
		}
	}
}

// 18.2: all choices of small programs, and lists that are none.
func TestResolve(t *testing.T) {
	roll, seen := dice(1821), map[bool]int{}
	for _, p := range smallProgs(t, roll, 400, 300) {
		n, _ := event.Tries(p)
		for fails := range api.Set(1) << n {
			l, _ := event.List(p, fails)
			var options [][]int
			for _, e := range l {
				o := []int{-1}
				if e.Kind == api.ERead {
					o = writesTo(l, e.Loc)
				}
				options = append(options, o)
			}
			for _, from := range lists(options) {
				seen[holdResolve(t, p, fails, from)]++
				for range 3 {
					holdResolve(t, p, fails, twist(roll, from))
				}
			}
		}
	}
	if seen[true] < 1000 || seen[false] < 1000 {
		t.Errorf("choices with values and without: %v", seen)
	}
}

// holdResolve holds Resolve against the words, and tells whether there are values.
func holdResolve(t *testing.T, p api.Prog, fails api.Set, from []int) bool {
	t.Helper()
	values, regs, ok := saysValues(p, fails, from)
	got, ends, e := cand.Resolve(p, fails, from)
	if !ok {
		if e != api.ErrExec || got != nil || ends != nil {
			t.Fatalf("Resolve(%v, %x, %v): %v %v %d; want ErrExec", p, fails, from, got, ends, e)
		}
		return false
	}
	if e != api.OK || !slices.Equal(got, values) || !slices.EqualFunc(ends, regs, slices.Equal) {
		t.Fatalf("Resolve(%v, %x, %v): %v %v %d; want %v %v", p, fails, from, got, ends, e, values, regs)
	}
	return true
}

// twist is a list with something changed.
func twist(roll func(int) int, l []int) []int {
	l = slices.Clone(l)
	odd := []int{math.MinInt, -2, -1, 0, 1, 2, 3, len(l) - 1, len(l), len(l) + 1, 63, 64, math.MaxInt}
	switch at := roll(len(l) + 1); {
	case at == len(l) || roll(5) == 0:
		return slices.Insert(l, at, pick(roll, odd))
	case roll(5) == 0:
		return slices.Delete(l, at, at+1)
	default:
		l[at] = pick(roll, odd)
		return l
	}
}

// 18.2: what values come to, written out; the last thread's EAX and EBX are told.
func TestResolveWritten(t *testing.T) {
	const none = "none"
	for _, c := range []struct {
		settings string
		threads  []string
		fails    api.Set
		from     []int
		want     string
	}{
		{"x=7", []string{"MOV EAX,[x]; MOV [y],EAX"}, 0, []int{-1, -1, 0, -1}, "[7 0 7 7] [[7]]"},
		{"x=7", []string{"MOV EAX,[x]; MOV EBX,EAX; MOV EAX,$1; MOV [y],EBX"}, 0, []int{-1, -1, 0, -1}, "[7 0 7 7] [[1 7]]"},
		{"0:EAX=4", []string{"MFENCE; MOV [x],EAX"}, 0, []int{-1, -1, -1}, "[0 0 4] [[4]]"},
		// A load ahead of its own thread's store.
		{"", []string{"MOV EAX,[x]; MOV [x],$3"}, 0, []int{-1, 2, -1}, "[0 3 3] [[3]]"},
		{"", []string{"MOV EAX,[x]; MOV [x],EAX"}, 0, []int{-1, 2, -1}, none},
		{"0:EBX=2", []string{"MOV EAX,[x]; MOV [x],EBX"}, 0, []int{-1, 2, -1}, "[0 2 2] [[2 2]]"},
		// What is overwritten no longer hangs on what it was, and what nobody reads still must have a value.
		{"", []string{"MOV EAX,[x]; MOV EAX,$1; MOV [x],EAX"}, 0, []int{-1, 2, -1}, "[0 1 1] [[1]]"},
		{"", []string{"MOV EAX,[x]; MOV [x],EAX; MOV EAX,$1"}, 0, []int{-1, 2, -1}, none},
		// XCHG writes what its register had, XADD the sum, which wraps.
		{"x=1; 0:EAX=2", []string{"XCHG [x],EAX"}, 0, []int{-1, 0, -1}, "[1 1 2] [[1]]"},
		{"x=1; 0:EAX=2", []string{"XCHG [x],EAX"}, 0, []int{-1, 2, -1}, "[1 2 2] [[2]]"},
		{"x=1; 0:EAX=2", []string{"LOCK XADD [x],EAX"}, 0, []int{-1, 0, -1}, "[1 1 3] [[1]]"},
		{"x=1; 0:EAX=2", []string{"LOCK XADD [x],EAX"}, 0, []int{-1, 2, -1}, none},
		{"x=9223372036854775807; 0:EAX=1", []string{"LOCK XADD [x],EAX"}, 0, []int{-1, 0, -1}, "[9223372036854775807 9223372036854775807 -9223372036854775808] [[9223372036854775807]]"},
		{"x=3", []string{"MOV EAX,[x]; LOCK XADD [x],EAX"}, 0, []int{-1, 0, 0, -1}, "[3 3 3 6] [[3]]"},
		{"x=3", []string{"MOV EAX,[x]; LOCK XADD [x],EAX"}, 0, []int{-1, 3, 0, -1}, none},
		{"", []string{"LOCK XADD [x],EAX", "LOCK XADD [x],EAX"}, 0, []int{-1, 4, -1, 2, -1}, none},
		{"0:EAX=1; 1:EAX=2", []string{"LOCK XADD [x],EAX", "LOCK XADD [x],EAX"}, 0, []int{-1, 0, -1, 2, -1}, "[0 0 1 1 3] [[0] [1]]"},
		// Tries: what is written hangs on the register alone, not on what is read.
		{"0:EBX=5", []string{"LOCK CMPXCHG [x],EBX"}, 0, []int{-1, 0, -1}, "[0 0 5] [[0 5]]"},
		{"0:EBX=5", []string{"LOCK CMPXCHG [x],EBX"}, 0, []int{-1, 2, -1}, none},
		{"0:EBX=5; 0:EAX=5", []string{"LOCK CMPXCHG [x],EBX"}, 0, []int{-1, 2, -1}, "[0 5 5] [[5 5]]"},
		{"0:EBX=5; 0:EAX=5", []string{"LOCK CMPXCHG [x],EBX"}, 0, []int{-1, 0, -1}, none},
		{"0:EBX=5; 0:EAX=5", []string{"LOCK CMPXCHG [x],EBX"}, 1, []int{-1, 0}, "[0 0] [[0 5]]"},
		{"0:EBX=5", []string{"LOCK CMPXCHG [x],EBX"}, 1, []int{-1, 0}, none},
		{"0:EAX=5", []string{"LOCK CMPXCHG [x],EAX"}, 0, []int{-1, 2, -1}, "[0 5 5] [[5]]"},
		// EAX is asked for as it is just ahead of the try: a load ahead of it counts, one behind it does not.
		{"x=4; 0:EBX=5", []string{"MOV EAX,[x]; LOCK CMPXCHG [x],EBX; MOV EAX,[y]"}, 0, []int{-1, -1, 0, 0, -1, 1}, "[4 0 4 4 5 0] [[0 5]]"},
		{"x=4; 0:EBX=5", []string{"MOV EAX,[x]; LOCK CMPXCHG [x],EBX; MOV EAX,[x]"}, 1, []int{-1, 0, 0, 0}, none},
		// What a failing try read is in EAX for the next one.
		{"x=4; 0:EBX=5", []string{"LOCK CMPXCHG [x],EBX; LOCK CMPXCHG [x],EBX"}, 1, []int{-1, 0, 0, -1}, "[4 4 4 5] [[4 5]]"},
		{"x=4; 0:EBX=5", []string{"LOCK CMPXCHG [x],EBX; LOCK CMPXCHG [x],EBX"}, 3, []int{-1, 0, 0}, none},
		{"x=4; 0:EBX=5", []string{"LOCK CMPXCHG [x],EBX; LOCK CMPXCHG [x],EBX"}, 2, []int{-1, 0, -1, 0}, none},
		// EAX of a try that does not fail hangs on what made it, not on the try's read.
		{"0:EBX=5", []string{"LOCK CMPXCHG [x],EBX; MOV [x],EAX"}, 0, []int{-1, 3, -1, -1}, "[0 0 5 0] [[0 5]]"},
		{"0:EAX=1; 0:EBX=5", []string{"LOCK CMPXCHG [x],EBX; MOV [x],EAX"}, 1, []int{-1, 2, -1}, none},
		// Tries of two threads are numbered on.
		{"0:EBX=5; 1:EBX=6", []string{"LOCK CMPXCHG [x],EBX", "LOCK CMPXCHG [x],EBX"}, 2, []int{-1, 0, -1, 2}, "[0 0 5 5] [[0 5] [5 6]]"},
		{"0:EBX=5; 1:EBX=6", []string{"LOCK CMPXCHG [x],EBX", "LOCK CMPXCHG [x],EBX"}, 1, []int{-1, 3, 0, -1}, "[0 6 0 6] [[6 5] [0 6]]"},
		{"", []string{"MOV EAX,[x]; MOV [y],EAX", "MOV EAX,[y]; MOV [x],EAX"}, 0, []int{-1, -1, 5, -1, 3, -1}, none},
		{"y=2", []string{"MOV EAX,[x]; MOV [y],EAX", "MOV EAX,[y]; MOV [x],EAX"}, 0, []int{-1, -1, 5, -1, 1, -1}, "[0 2 2 2 2 2] [[2] [2]]"},
		{"", []string{""}, 0, nil, "[] [[]]"},
	} {
		p := of(t, c.settings, c.threads...)
		values, regs, e := cand.Resolve(p, c.fails, c.from)
		got := fmt.Sprint(values, " ", regs)
		if e != api.OK {
			got = none
		}
		if got != c.want || e != api.OK && e != api.ErrExec {
			t.Errorf("Resolve of %s, %q, %x, %v: %s %d; want %s", c.settings, c.threads, c.fails, c.from, got, e, c.want)
		}
	}
}

// 18.2: lists that are no choice of reads of SB, written out.
func TestNoChoice(t *testing.T) {
	p := sb(t)
	for _, from := range [][]int{
		nil, {}, {-1, -1, -1, 1, -1}, {-1, -1, -1, 1, -1, 0, -1}, {-1, -1, -1, -1, -1, 0}, {-1, -1, -1, 0, -1, 0}, {-1, -1, -1, 2, -1, 0}, {-1, -1, -1, 3, -1, 0},
		{-1, -1, -1, 5, -1, 0}, {-1, -1, -1, 6, -1, 0}, {-1, -1, -1, 1, -1, 1}, {0, -1, -1, 1, -1, 0}, {-1, -1, 0, 1, -1, 0}, {-2, -1, -1, 1, -1, 0}, {-1, -1, -1, math.MinInt, -1, 0}, {-1, -1, -1, math.MaxInt, -1, 0},
	} {
		if l, r, e := cand.Resolve(p, 0, from); e != api.ErrExec || l != nil || r != nil {
			t.Errorf("Resolve(SB, %v): %v %v %d", from, l, r, e)
		}
	}
}

// 18.2, R6: many instructions without events.
func TestResolveLong(t *testing.T) {
	p := of(t, "x=3", "MOV EAX,[x]; MOV [y],EAX")
	moves := slices.Repeat([]api.Op{{Kind: api.OMovReg}}, 1<<16)
	p.Threads[0] = slices.Concat(p.Threads[0][:1], moves, p.Threads[0][1:])
	values, regs, e := cand.Resolve(p, 0, []int{-1, -1, 0, -1})
	if e != api.OK || !slices.Equal(values, []int64{3, 0, 3, 3}) || regs[0][0] != 3 {
		t.Errorf("Resolve: %v %v %d", values, regs, e)
	}
	x, e := cand.Run(p, make([]int, 1<<16+2))
	if e != api.OK || cand.Check(p, x) != api.OK || !slices.Equal(x.Values, values) {
		t.Errorf("Run: %v %d", x, e)
	}
}

// A chain in which each value hangs on the next thread's: as long as it can be.
func TestResolveChain(t *testing.T) {
	var words []string
	for i := range 15 {
		words = append(words, fmt.Sprintf("MOV EAX,[l%02d]; MOV [l%02d],EAX", i+1, i))
	}
	p := of(t, "l15=9", strings.Join(words, ";"))
	from := slices.Repeat([]int{-1}, 46)
	for i := range 15 {
		from[16+2*i] = 16 + 2*(i+1) + 1 // what the next pair writes
	}
	from[16+28] = 15
	values, regs, e := cand.Resolve(p, 0, from)
	if e != api.OK || regs[0][0] != 9 || slices.Max(values[:15]) != 0 || slices.Min(values[15:]) != 9 {
		t.Errorf("Resolve: %v %v %d", values, regs, e)
	}
}

// 18.3: of all fails, of programs small and great.
func TestSpace(t *testing.T) {
	roll := dice(1831)
	progs := smallProgs(t, roll, 300, 1<<29)
	for _, p := range greatProgs(t) {
		progs = append(progs, p)
	}
	seen := map[api.Errno]int{}
	for _, p := range progs {
		n, _ := event.Tries(p)
		for range 20 {
			fails := api.Set(roll(1<<62)) & (1<<n - 1)
			l, _ := event.List(p, fails)
			want := saysSpace(p, l)
			got, e := cand.Space(p, fails)
			seen[e]++
			if want.IsUint64() && (e != api.OK || got != want.Uint64()) || !want.IsUint64() && (e != api.ErrCount || got != 0) {
				t.Fatalf("Space(%v, %x): %d %d; want %v", p, fails, got, e, want)
			}
		}
	}
	if seen[api.OK] == 0 || seen[api.ErrCount] == 0 {
		t.Errorf("counts and errors: %v", seen)
	}
}

// 18.3: written out.
func TestSpaceWritten(t *testing.T) {
	for _, c := range []struct {
		fails   api.Set
		want    uint64
		threads []string
	}{
		{0, 1, []string{""}},
		{0, 1, []string{"MFENCE", "MOV EAX,$1"}},
		{0, 1, []string{"MOV EAX,[x]"}},
		{0, 1, []string{"MOV [x],$1"}},
		{0, 2, []string{"MOV [x],$1; MOV [x],$1"}},
		{0, 24, []string{"MOV [x],$1; MOV [x],$1", "MOV [x],$2; MOV [x],$3"}},
		{0, 4, []string{"MOV [x],$1; MOV [x],$1", "MOV [y],$2; MOV [y],$3"}},
		{0, 4, []string{"MOV [x],$1; MOV EAX,[y]", "MOV [y],$1; MOV EAX,[x]"}},
		{0, 18, []string{"MOV [x],$1; MOV [x],$1; MOV EAX,[x]; MOV EAX,[x]"}},
		{0, 2, []string{"LOCK XADD [x],EAX"}},
		{0, 2, []string{"LOCK CMPXCHG [x],EBX"}},
		{1, 1, []string{"LOCK CMPXCHG [x],EBX"}},
		{0, 18, []string{"LOCK CMPXCHG [x],EBX; LOCK CMPXCHG [x],EBX"}},
		{2, 4, []string{"LOCK CMPXCHG [x],EBX; LOCK CMPXCHG [x],EBX"}},
		{0, 2432902008176640000, []string{strings.Repeat("MOV [x],$1;", 20)}},
		{0, 1 << 62, []string{"MOV [x],$1;" + strings.Repeat("MOV EAX,[x];", 61), "MOV EAX,[x]"}},
		{0, 1 << 60, []string{"MOV [x],$1;" + strings.Repeat("MOV EAX,[x];", 60), "MFENCE; MFENCE"}},
	} {
		if n, e := cand.Space(of(t, "", c.threads...), c.fails); n != c.want || e != api.OK {
			t.Errorf("Space(%q, %x): %d %d; want %d", c.threads, c.fails, n, e, c.want)
		}
	}
	if n, e := cand.Space(of(t, "", strings.Repeat("MOV [x],$1;", 21)), 0); n != 0 || e != api.ErrCount {
		t.Errorf("Space of 21 stores: %d %d", n, e)
	}
}

// part is how many writes and reads of one location there are, and how many pairs they make.
type part struct {
	writes, reads int
	count         uint64
}

// 18.3: the greatest count below 2^64 that two locations come to, and the least one from there on.
func TestSpaceEdge(t *testing.T) {
	var parts []part
	for writes := range 21 {
		for reads := 0; writes+reads <= 62; reads++ {
			if n, ok := power(writes, reads); ok {
				parts = append(parts, part{writes, reads, n})
			}
		}
	}
	var below, above [2]part
	top, least := uint64(0), uint64(math.MaxUint64)
	for _, a := range parts {
		for _, b := range parts {
			if a.writes+a.reads+b.writes+b.reads > 62 {
				continue
			}
			hi, lo := bits.Mul64(a.count, b.count)
			if hi == 0 && lo > top {
				below, top = [2]part{a, b}, lo
			}
			if hi == 1 && lo < least {
				above, least = [2]part{a, b}, lo
			}
		}
	}
	if n, e := cand.Space(ofParts(t, below), 0); n != top || e != api.OK {
		t.Errorf("Space of %v: %d %d; want %d", below, n, e, top)
	}
	if n, e := cand.Space(ofParts(t, above), 0); n != 0 || e != api.ErrCount {
		t.Errorf("Space of %v: %d %d; it is 2^64 + %d", above, n, e, least)
	}
	if top < math.MaxUint64/1000*999 || least > math.MaxUint64/1000 {
		t.Errorf("far from the edge: %d, 2^64 + %d", top, least)
	}
}

// power is (writes + 1) ^ reads * writes!, if it is below 2^64.
func power(writes, reads int) (uint64, bool) {
	n := uint64(1)
	times := func(k int) bool {
		hi, lo := bits.Mul64(n, uint64(k))
		n = lo
		return hi == 0
	}
	for k := range writes {
		if !times(k + 1) {
			return 0, false
		}
	}
	for range reads {
		if !times(writes + 1) {
			return 0, false
		}
	}
	return n, true
}

func ofParts(t *testing.T, l [2]part) api.Prog {
	t.Helper()
	var threads []string
	for i, c := range l {
		loc := []string{"[x]", "[y]"}[i]
		threads = append(threads, strings.Repeat("MOV "+loc+",$1;", c.writes), strings.Repeat("MOV EAX,"+loc+";", c.reads))
	}
	return of(t, "x=0; y=0", threads...)
}

// 18.7, R4: Resolve and Space change and keep nothing, and answer new memory.
func TestResolveMemory(t *testing.T) {
	roll := dice(1871)
	for _, p := range smallProgs(t, roll, 200, 100) {
		for _, x := range saysAll(p) {
			if roll(10) != 0 {
				continue
			}
			p, from := wide(p), wide(x.From)
			n, _ := event.Tries(p)
			fails := api.Set(roll(1<<62)) & (1<<n - 1)
			before := whole(reflect.ValueOf(p)) + whole(reflect.ValueOf(from))
			values, regs, e := cand.Resolve(p, fails, from)
			other, others, _ := cand.Resolve(p, fails, from)
			cand.Space(p, fails)
			if after := whole(reflect.ValueOf(p)) + whole(reflect.ValueOf(from)); after != before {
				t.Fatalf("what was handed in has changed: %s; it was %s", after, before)
			}
			apart(t, p, from, values, regs, other, others)
			text := fmt.Sprint(other, others)
			spoil(reflect.ValueOf(values))
			spoil(reflect.ValueOf(regs))
			if again, ends, f := cand.Resolve(p, fails, from); f != e || fmt.Sprint(again, ends) != text || fmt.Sprint(other, others) != text {
				t.Fatalf("Resolve(%v, %x, %v): %v %v; it was %s", p, fails, from, again, ends, text)
			}
		}
	}
}

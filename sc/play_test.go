package sc_test

import (
	"fmt"
	"maps"
	"math"
	"reflect"
	"slices"
	"testing"

	"weir/api"
	"weir/odo"
	"weir/prog"
	"weir/sc"
)

// lengths is how many instructions each thread has.
func lengths(p api.Prog) []int {
	var l []int
	for _, ops := range p.Threads {
		l = append(l, len(ops))
	}
	return l
}

// weaves is the weaves of a program's threads.
func weaves(t *testing.T, p api.Prog) *odo.Space {
	t.Helper()
	w, e := odo.Weaves(lengths(p))
	if e != api.OK {
		t.Fatalf("Weaves(%v): %d", lengths(p), e)
	}
	return w
}

// saysPlay is the final state behind the instructions of threads in an order, each done as its text says.
func saysPlay(p api.Prog, order []int) api.Final {
	s := evenState(saysStart(p))
	for _, i := range order {
		s = saysTurn(p, s, i)
	}
	return saysFinal(s)
}

// 11.4: the chapter's example 3.
func TestExamplePlay(t *testing.T) {
	p := sb(t)
	for _, c := range []struct {
		order []int
		want  []int64
	}{
		{[]int{0, 0, 1, 1}, []int64{0, 1, 1, 1}},
		{[]int{1, 1, 0, 0}, []int64{1, 0, 1, 1}},
		{[]int{0, 1, 0, 1}, []int64{1, 1, 1, 1}},
	} {
		if f, e := sc.Play(p, c.order); e != api.OK || f.N != 4 || !slices.Equal(f.V[:5], append(c.want, 0)) {
			t.Errorf("Play(%v): %v, %d; want %v", c.order, f, e, c.want)
		}
	}
	if f, e := sc.Play(p, []int{0, 0, 0, 1}); e != api.ErrPick || f != (api.Final{}) {
		t.Errorf("Play(0 0 0 1): %v, %d", f, e)
	}
	for order := range weaves(t, p).All() {
		if f, e := sc.Play(p, order); e != api.OK || f.V[0] == 0 && f.V[1] == 0 {
			t.Errorf("Play(%v): %v, %d", order, f, e)
		}
	}
}

// checkPlay holds Play of an order, a weave or not, against the words.
func checkPlay(t *testing.T, p api.Prog, order []int) {
	t.Helper()
	f, e := sc.Play(p, order)
	if _, none := weaves(t, p).Rank(order); none != api.OK {
		if f != (api.Final{}) || e != api.ErrPick {
			t.Errorf("Play(%v) of %.300s: %v, %d", order, fmt.Sprint(p), f, e)
		}
		return
	}
	if want := saysPlay(p, order); f != want || e != api.OK {
		t.Errorf("Play(%v) of %.300s: %v, %d; want %v", order, fmt.Sprint(p), f, e, want)
	}
}

// 11.4: all short orders of programs with few instructions, weaves and others.
func TestPlayShort(t *testing.T) {
	roll := dice(141)
	progs := []api.Prog{bare(1), bare(2), bare(4), of(t, "", "MOV EAX,$1"), of(t, "x=2", "MOV EAX,[x]|XCHG [x],EAX; MOV [x],$1| "), of(t, "x=2", " |MOV EAX,[x]; |LOCK XADD [x],EAX")}
	for range 10 {
		progs = append(progs, someProg(roll, 2))
	}
	for _, p := range progs {
		members := []int{-1}
		for i := range len(p.Threads) + 1 {
			members = append(members, i)
		}
		lists(members, 5, func(order []int) { checkPlay(t, p, order) })
		for _, odd := range []int{math.MinInt, -1, len(p.Threads), 1 << 32, math.MaxInt} {
			for order := range weaves(t, p).All() {
				for at := range len(order) + 1 {
					checkPlay(t, p, slices.Insert(slices.Clone(order), at, odd))
				}
				for at := range order {
					other := slices.Clone(order)
					other[at] = odd
					checkPlay(t, p, other)
				}
				break
			}
		}
	}
}

// 11.4: unruly weaves of unruly programs, and orders near them.
func TestPlay(t *testing.T) {
	roll := dice(142)
	progs := []api.Prog{sb(t), all(t)}
	for range 400 {
		progs = append(progs, someProg(roll, 5))
	}
	for _, p := range progs {
		for range 4 {
			order := someWeave(roll, p)
			checkPlay(t, p, order)
			if len(order) > 0 {
				checkPlay(t, p, order[1:])
				checkPlay(t, p, order[:len(order)-1])
				checkPlay(t, p, append(slices.Clone(order), order[0]))
				other := slices.Clone(order)
				other[roll(len(other))] = roll(5)
				checkPlay(t, p, other)
			}
		}
	}
}

// someWeave is an unruly weave of a program's threads.
func someWeave(roll func(int) int, p api.Prog) []int {
	var order []int
	for i, n := range lengths(p) {
		for range n {
			order = slices.Insert(order, roll(len(order)+1), i)
		}
	}
	return order
}

// 11.4: more instructions than the spaces of chapter 3 go through: the words' weaves have no bound.
func TestPlayLong(t *testing.T) {
	f, e := sc.Play(fullest(), slices.Repeat([]int{3, 1, 0, 2}, 12))
	if want := saysPlay(fullest(), slices.Repeat([]int{3, 1, 0, 2}, 12)); f != want || e != api.OK || f.N != 48 {
		t.Errorf("Play of a full program: %v, %d; want %v", f, e, want)
	}
	const n = 1 << 17
	p := of(t, "x=0; 0:EBX=0; 1:EBX=0; 0:ECX=9; 1:ECX=9", "MOV [x],EBX|XCHG [x],EBX; MOV ECX,[x]|MOV ECX,[x]")
	for i, l := range p.Threads {
		var many []api.Op
		for k := range n {
			many = append(many, api.Op{Kind: api.OMovImm, Imm: int64(k*10 + i)})
		}
		p.Threads[i] = append(many, l...)
	}
	order := append(slices.Repeat([]int{0, 1}, n), 1, 0, 1, 0)
	want := []int64{(n-1)*10 + 0, (n-1)*10 + 0, 0, (n-1)*10 + 0, (n-1)*10 + 0}
	if f, e := sc.Play(p, order); e != api.OK || f.N != 5 || !slices.Equal(f.V[:5], want) {
		t.Errorf("Play of very many instructions: %v, %d; want %v", f.V[:5], e, want)
	}
	for _, wrong := range [][]int{order[1:], order[:2*n], append(slices.Clone(order), 0), make([]int, len(order)), nil} {
		if f, e := sc.Play(p, wrong); e != api.ErrPick || f != (api.Final{}) {
			t.Errorf("Play of an order of %d: %v, %d", len(wrong), f, e)
		}
	}
	if f, e := sc.Play(sb(t), make([]int, 1<<22)); e != api.ErrPick || f != (api.Final{}) {
		t.Errorf("Play of a very long order: %v, %d", f, e)
	}
}

// walk goes through all that a machine can come to, and gathers the final states.
func walk(t *testing.T, m api.Machine, steps int) map[api.Final]int {
	t.Helper()
	ends := map[api.Final]int{}
	level := map[string]int{m.Start: 1}
	for depth := range steps + 1 {
		next := map[string]int{}
		for text := range level {
			l := m.Picks(text)
			f, end := m.End(text)
			if end != (depth == steps) || end != (len(l) == 0) {
				t.Fatalf("behind %d of %d steps: picks %v, end %v", depth, steps, l, end)
			}
			if end {
				ends[f]++
			}
			for _, k := range l {
				behind, ok := m.Step(text, k)
				if !ok || behind == text {
					t.Fatalf("the pick %v of %q can't be done", k, text)
				}
				next[behind]++
			}
		}
		level = next
	}
	if len(level) != 0 {
		t.Fatalf("more than %d steps", steps)
	}
	return ends
}

// 11.5: whatever is picked, the machine ends behind as many steps as there are instructions, at what Play answers of the weaves; Run's final state is one.
func TestFollows(t *testing.T) {
	roll := dice(151)
	progs := []api.Prog{sb(t), bare(1), bare(4), of(t, "0:EAX=1; 1:EAX=1; x=0", "LOCK XADD [x],EAX|LOCK XADD [x],EAX"), of(t, "", "MOV [x],$1|MOV EAX,[y]; MOV [y],$1|MOV EBX,[x]")}
	wants := []int{3, 1, 1, 2, 3}
	for range 300 {
		progs = append(progs, someProg(roll, 3))
	}
	for i, p := range progs {
		w := weaves(t, p)
		if n, _ := w.Len(); n > 3000 {
			continue
		}
		played := map[api.Final]int{}
		steps := 0
		for order := range w.All() {
			f, e := sc.Play(p, order)
			if e != api.OK {
				t.Fatalf("Play(%v): %d", order, e)
			}
			played[f]++
			steps = len(order)
		}
		ends := walk(t, made(t, p), steps)
		if len(ends) != len(played) || !maps.EqualFunc(ends, played, func(a, b int) bool { return a > 0 && b > 0 }) {
			t.Fatalf("of %.300s: ends %v; played %v", fmt.Sprint(p), ends, played)
		}
		if i < len(wants) && len(ends) != wants[i] {
			t.Errorf("of %v: %d final states; want %d", p, len(ends), wants[i])
		}
		run, e := prog.Run(p)
		if e != api.OK || ends[run] == 0 {
			t.Fatalf("of %.300s: Run's %v is no end", fmt.Sprint(p), run)
		}
		var behind []int
		for k, n := range lengths(p) {
			behind = append(behind, slices.Repeat([]int{k}, n)...)
		}
		if f, _ := sc.Play(p, behind); f != run {
			t.Fatalf("of %.300s: Play(%v) is %v; Run %v", fmt.Sprint(p), behind, f, run)
		}
	}
}

// R4: what is handed in is not changed, in its spare room neither.
func TestPlayMemory(t *testing.T) {
	roll := dice(152)
	for range 100 {
		p := spareProg(someProg(roll, 4))
		order := spare(someWeave(roll, p), 7)
		before := whole(reflect.ValueOf(p)) + whole(reflect.ValueOf(order))
		first, _ := sc.Play(p, order)
		again, _ := sc.Play(p, order)
		if after := whole(reflect.ValueOf(p)) + whole(reflect.ValueOf(order)); after != before || first != again {
			t.Fatalf("Play has changed %s; it was %s", after, before)
		}
	}
}

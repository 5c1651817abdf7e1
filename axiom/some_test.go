package axiom_test

import (
	"cmp"
	"fmt"
	"math"
	"reflect"
	"slices"
	"strings"
	"testing"

	"weir/api"
	"weir/cand"
	"weir/event"
	"weir/litmus"
	"weir/prog"
)

// dice is a row of numbers that look unruly and are the same at every run.
func dice(seed uint64) func(n int) int {
	return func(n int) int {
		seed += 0x9e3779b97f4a7c15
		z := (seed ^ seed>>30) * 0xbf58476d1ce4e5b9
		z = (z ^ z>>27) * 0x94d049bb133111eb
		return int((z ^ z>>31) % uint64(n))
	}
}

func pick[T any](roll func(int) int, l []T) T { return l[roll(len(l))] }

// of is the program of settings and of threads, whose instructions stand with a ; between them.
func of(t *testing.T, settings string, threads ...string) api.Prog {
	t.Helper()
	x := api.Test{Name: "t", Quant: api.Exists, Cond: api.Cond{{Op: api.CTrue}}}
	for _, thread := range threads {
		var l []api.Instr
		for _, text := range strings.FieldsFunc(thread, func(r rune) bool { return r == ';' }) {
			in, err := litmus.Instruction(text)
			if err != nil {
				t.Fatalf("%s: %v", text, err)
			}
			l = append(l, in)
		}
		x.Threads = append(x.Threads, l)
	}
	set, err := litmus.Parse("X86 t {" + settings + "} P0; exists true")
	if err != nil {
		t.Fatalf("%s: %v", settings, err)
	}
	x.Inits = set.Inits
	p, e := prog.Of(x)
	if e != api.OK {
		t.Fatalf("%s: %d", threads, e)
	}
	return p
}

func sb(t *testing.T) api.Prog {
	return of(t, "x=0; y=0", "MOV [x],$1; MOV EAX,[y]", "MOV [y],$1; MOV EAX,[x]")
}

// someInstr is an unruly instruction, mostly at one location; if it is plain, a load or a store.
func someInstr(roll func(int) int, loc string, plain bool) string {
	reg := pick(roll, []string{"EAX", "EBX"})
	store, load := "MOV ["+loc+"],$"+fmt.Sprint(1+roll(3)), "MOV "+reg+",["+loc+"]"
	if plain {
		return pick(roll, []string{store, load})
	}
	return pick(roll, []string{
		store, load, "MOV [z],$1", "MOV EAX,[z]", "MOV [" + loc + "]," + reg, "MOV " + reg + ",$" + fmt.Sprint(roll(3)), "MOV EAX,EBX", "MFENCE",
		"XCHG [" + loc + "]," + reg, "LOCK XADD [" + loc + "]," + reg,
		"LOCK CMPXCHG [" + loc + "]," + reg, "LOCK CMPXCHG [" + loc + "]," + reg,
	})
}

// someProg is an unruly program of up to so many instructions, in one to four threads; or one of two threads that come to x and y the other way round, where the models part.
func someProg(t *testing.T, roll func(int) int, most int) api.Prog {
	t.Helper()
	settings := pick(roll, []string{"", "", "x=1", "y=-1; 0:EAX=1", "0:EBX=2; x=2; y=1", "a=5"})
	if roll(3) == 0 {
		return of(t, settings, someShape(roll, "x", "y"), someShape(roll, "y", "x"))
	}
	threads := make([]string, []int{1, 2, 2, 2, 3, 4}[roll(6)])
	plain := roll(7) // of so many of six instructions it is asked that they are plain
	for range 1 + roll(most) {
		threads[roll(len(threads))] += someInstr(roll, pick(roll, []string{"x", "y"}), roll(6) < plain) + ";"
	}
	return of(t, settings, threads...)
}

// someShape is a thread of two plain instructions, and perhaps another one between.
func someShape(roll func(int) int, first, second string) string {
	s := someInstr(roll, first, true) + ";"
	if roll(3) == 0 {
		s += someInstr(roll, pick(roll, []string{"x", "y"}), false) + ";"
	}
	return s + someInstr(roll, second, true)
}

// smallProgs is unruly programs, of which each has few choices of reads and orders of writes.
func smallProgs(t *testing.T, roll func(int) int, n int, most uint64) []api.Prog {
	t.Helper()
	var l []api.Prog
	for len(l) < n {
		p := someProg(t, roll, 9)
		if size, e := cand.Space(p, 0); e == api.OK && size <= most {
			l = append(l, p)
		}
	}
	return l
}

// someNumbers is numbers at the edges of what may stand for a place among n, and beyond.
func someNumbers(n int) []int {
	return []int{math.MinInt, -65, -64, -2, -1, 0, 1, n - 1, n, n + 1, 63, 64, 65, 128, math.MaxInt}
}

// someEvent is an unruly event, of no program.
func someEvent(roll func(int) int) api.Event {
	return api.Event{
		Kind:   []int{1, 1, 2, 2, 2, 3, 3, 3, 4, 4, 0, 5, -1, math.MinInt, math.MaxInt}[roll(15)],
		Thread: []int{-1, -1, 0, 0, 0, 1, 1, 1, 2, -2, math.MinInt, math.MaxInt}[roll(12)],
		Index:  []int{0, 0, 0, 1, 1, 2, -1, math.MinInt, math.MaxInt}[roll(9)],
		Loc:    []int{-1, 0, 0, 0, 1, 1, 2, 3, -2, math.MinInt, math.MaxInt}[roll(11)],
		Locked: roll(2) == 0,
	}
}

// somePlaces is unruly numbers, most of them places among n events.
func somePlaces(roll func(int) int, length, n int) []int {
	var l []int
	for range length {
		if n == 0 || roll(6) == 0 {
			l = append(l, pick(roll, someNumbers(n)))
		} else {
			l = append(l, roll(n))
		}
	}
	return l
}

// someExec is an unruly execution of so many events, of no program; its lists are as long as it comes.
func someExec(roll func(int) int, n int) api.Exec {
	var x api.Exec
	for range n {
		x.Events = append(x.Events, someEvent(roll))
	}
	x.From = somePlaces(roll, []int{n, n, n / 2, 0, n / 4, n + 3, 2*n + 70}[roll(7)], n)
	for range roll(4) {
		x.Order = append(x.Order, somePlaces(roll, []int{0, 1, 2, 3, 5, 9}[roll(6)], n))
	}
	if roll(20) == 0 {
		x.Order = append(x.Order, somePlaces(roll, 200, n))
	}
	return x
}

// someDense is an execution of no program, of few events that have much to do with one another; mostly reads read, and writes come in orders.
func someDense(roll func(int) int) api.Exec {
	n := 3 + roll(5)
	var x api.Exec
	for range n {
		e := api.Event{Kind: []int{1, 2, 2, 3, 3, 4, 5}[roll(7)], Thread: []int{-1, 0, 0, 0, 1}[roll(5)], Index: roll(8) / 6, Loc: roll(8) / 6, Locked: roll(4) > 0}
		from := -1
		if e.Kind == api.ERead || roll(12) == 0 {
			from = roll(n)
		}
		x.Events, x.From = append(x.Events, e), append(x.From, from)
	}
	for range 1 + roll(2) {
		var order []int
		for a, e := range x.Events {
			if (e.Kind < api.ERead) == (roll(12) > 0) {
				order = slices.Insert(order, roll(len(order)+1), a)
			}
		}
		x.Order = append(x.Order, order)
	}
	return x
}

// someExecs is unruly executions of all lengths, too long ones and many short ones among them.
func someExecs(roll func(int) int, each int) []api.Exec {
	var l []api.Exec
	for n := range 68 {
		for range each {
			l = append(l, someExec(roll, n))
		}
	}
	for range 100 * each {
		l = append(l, someExec(roll, roll(9)))
	}
	for range 800 * each {
		l = append(l, someDense(roll))
	}
	for _, n := range []int{128, 129, 1000, 1 << 16} {
		l = append(l, someExec(roll, n))
	}
	return l
}

// someWhole is an unruly execution of a program's events: each read reads from a write to its location, each list of Order has all writes to a location, the initial one first.
func someWhole(roll func(int) int, p api.Prog) api.Exec {
	n, _ := event.Tries(p)
	l, _ := event.List(p, api.Set(roll(1<<62))&(1<<n-1))
	x := api.Exec{Events: l, Values: make([]int64, len(l))}
	for loc := range p.Locs {
		var order []int
		for i, e := range l {
			if e.Loc == loc && (e.Kind == api.EInit || e.Kind == api.EWrite) {
				order = append(order, i)
			}
		}
		for i := len(order) - 1; i > 1; i-- {
			if roll(3) > 0 { // else the writes come in the order of the threads, as they may by every model
				k := 1 + roll(i)
				order[i], order[k] = order[k], order[i]
			}
		}
		x.Order = append(x.Order, order)
	}
	for _, e := range l {
		from := -1
		if e.Kind == api.ERead {
			from = pick(roll, x.Order[e.Loc])
		}
		x.From = append(x.From, from)
	}
	return x
}

// allOf is a program's candidates.
func allOf(t *testing.T, p api.Prog) []api.Exec {
	t.Helper()
	it, e := cand.All(p)
	if e != api.OK {
		t.Fatalf("All(%v): %d", p, e)
	}
	return slices.Collect(it)
}

// wide is v in memory of its own, with room behind each list's end that holds something.
func wide[T any](v T) T {
	widen(reflect.ValueOf(&v).Elem())
	return v
}

func widen(v reflect.Value) {
	switch v.Kind() {
	case reflect.Slice:
		n := v.Len()
		l := reflect.MakeSlice(v.Type(), n+2, n+2)
		reflect.Copy(l, v)
		for i := range n {
			widen(l.Index(i))
		}
		spoil(l.Index(n))
		spoil(l.Index(n + 1))
		v.Set(l.Slice(0, n))
	case reflect.Struct:
		for i := range v.NumField() {
			widen(v.Field(i))
		}
	}
}

// spoil overwrites all that v holds, in the spare room too.
func spoil(v reflect.Value) {
	switch v.Kind() {
	case reflect.Slice:
		for i, l := 0, v.Slice(0, v.Cap()); i < l.Len(); i++ {
			spoil(l.Index(i))
		}
	case reflect.Struct:
		for i := range v.NumField() {
			spoil(v.Field(i))
		}
	case reflect.Int, reflect.Int64:
		v.SetInt(-77)
	case reflect.Bool:
		v.SetBool(true)
	case reflect.String:
		v.SetString("spoilt")
	}
}

// whole is what v and all lists in it hold, their spare room too.
func whole(v reflect.Value) string {
	switch v.Kind() {
	case reflect.Slice:
		s := fmt.Sprint("[", v.Len(), ":")
		for i, l := 0, v.Slice(0, v.Cap()); i < l.Len(); i++ {
			s += whole(l.Index(i)) + " "
		}
		return s + "]"
	case reflect.Struct:
		s := "{"
		for i := range v.NumField() {
			s += whole(v.Field(i)) + " "
		}
		return s + "}"
	}
	return fmt.Sprintf("%#v", v)
}

// span is where a list lies in memory, with its spare room.
type span struct{ begin, end uintptr }

// spans is where all lists of v lie.
func spans(v reflect.Value) []span {
	var l []span
	switch v.Kind() {
	case reflect.Slice:
		if v.Cap() > 0 {
			l = append(l, span{v.Pointer(), v.Pointer() + uintptr(v.Cap())*v.Type().Elem().Size()})
		}
		for i, all := 0, v.Slice(0, v.Cap()); i < all.Len(); i++ {
			l = append(l, spans(all.Index(i))...)
		}
	case reflect.Struct:
		for i := range v.NumField() {
			l = append(l, spans(v.Field(i))...)
		}
	}
	return l
}

// apart holds all lists of some values against each other: no two may share memory.
func apart(t *testing.T, values ...any) {
	t.Helper()
	var l []span
	for _, v := range values {
		l = append(l, spans(reflect.ValueOf(v))...)
	}
	slices.SortFunc(l, func(a, b span) int { return cmp.Compare(a.begin, b.begin) })
	for i := 1; i < len(l); i++ {
		if l[i].begin < l[i-1].end {
			t.Fatalf("two lists share memory")
		}
	}
}

package event_test

import (
	"fmt"
	"math"
	"reflect"
	"slices"
	"strings"
	"testing"

	"weir/api"
	"weir/litmus"
	"weir/prog"
)

// dice is a row of numbers that look unruly and are the same at every run.
func dice(seed uint64) func(n int) int {
	return func(n int) int {
		seed += 0x9e3779b97f4a7c15
		z := (seed ^ seed>>30) * 0xbf58476d1ce4e5b9
		z = (z ^ z>>27) * 0x94d049bb133111eb
		return int((z ^ z>>31) % uint64(n))
	}
}

func pick[T any](roll func(int) int, l []T) T { return l[roll(len(l))] }

// of is the program of settings and of threads, whose instructions stand with a ; between them.
func of(t *testing.T, settings string, threads ...string) api.Prog {
	t.Helper()
	x := api.Test{Name: "t", Quant: api.Exists, Cond: api.Cond{{Op: api.CTrue}}}
	for _, thread := range threads {
		var l []api.Instr
		for _, text := range strings.FieldsFunc(thread, func(r rune) bool { return r == ';' }) {
			in, err := litmus.Instruction(text)
			if err != nil {
				t.Fatalf("%s: %v", text, err)
			}
			l = append(l, in)
		}
		x.Threads = append(x.Threads, l)
	}
	set, err := litmus.Parse("X86 t {" + settings + "} P0; exists true")
	if err != nil {
		t.Fatalf("%s: %v", settings, err)
	}
	x.Inits = set.Inits
	p, e := prog.Of(x)
	if e != api.OK {
		t.Fatalf("%s: %d", threads, e)
	}
	return p
}

func sb(t *testing.T) api.Prog {
	return of(t, "x=0; y=0", "MOV [x],$1; MOV EAX,[y]", "MOV [y],$1; MOV EAX,[x]")
}

// all is a program with every kind of instruction; no instruction names w.
func all(t *testing.T) api.Prog {
	return of(t, "x=3; 0:EAX=1; 0:EBX=2; 1:EAX=3; 1:R8=-1; w=7",
		"MOV EBX,$-5; MOV [y],EBX; MFENCE; MOV EAX,[z]",
		"LOCK XADD [x],R8; LOCK CMPXCHG [x],R8; MOV R8,EAX; MOV [z],$4",
		"MOV EDI,[x]; XCHG [y],EDI; LOCK CMPXCHG [z],EDI; LOCK CMPXCHG [y],EDI")
}

// bare is a program of so many threads without instructions, registers and locations.
func bare(threads int) api.Prog {
	return api.Prog{Threads: make([][]api.Op, threads), Regs: make([][]string, threads), RegInit: make([][]int64, threads)}
}

// tries is a program of 64 events, 31 of whose instructions are tries, in two threads.
func tries(t *testing.T) api.Prog {
	return of(t, "", strings.Repeat("LOCK CMPXCHG [x],EBX;", 20), "MFENCE;"+strings.Repeat("LOCK CMPXCHG [x],EBX; MOV EAX,EBX;", 11))
}

// someThread is an unruly thread, of every kind of instruction.
func someThread(roll func(int) int, length int) string {
	var l []string
	for range length {
		loc, reg := pick(roll, []string{"x", "y", "z"}), pick(roll, []string{"EAX", "EBX"})
		l = append(l, pick(roll, []string{
			"MOV [" + loc + "],$" + fmt.Sprint(1+roll(3)), "MOV [" + loc + "]," + reg,
			"MOV " + reg + ",[" + loc + "]", "MOV " + reg + ",$" + fmt.Sprint(roll(3)), "MOV EAX,EBX", "MFENCE",
			"XCHG [" + loc + "]," + reg, "LOCK XADD [" + loc + "]," + reg,
			"LOCK CMPXCHG [" + loc + "]," + reg, "LOCK CMPXCHG [" + loc + "]," + reg,
		}))
	}
	return strings.Join(l, ";")
}

// someProgs is programs at the edges, and unruly ones.
func someProgs(t *testing.T, roll func(int) int, n int) []api.Prog {
	t.Helper()
	l := []api.Prog{sb(t), all(t), tries(t), bare(1), bare(4), of(t, "a=1; b=2", "")}
	for range n {
		var threads []string
		for range 1 + roll(4) {
			threads = append(threads, someThread(roll, roll(8)))
		}
		l = append(l, of(t, pick(roll, []string{"", "x=1", "a=2; y=-1; 0:EAX=1", "m=0; zz=1"}), threads...))
	}
	return l
}

// wrongProgs is programs that are not right, by what is wrong.
func wrongProgs(t *testing.T) map[string]api.Prog {
	m := map[string]api.Prog{"nothing": {}, "five threads": bare(5)}
	add := func(what string, turn func(*api.Prog)) {
		p := all(t)
		turn(&p)
		m[what] = p
	}
	add("a thread less", func(p *api.Prog) { p.Threads = p.Threads[1:] })
	add("a value more", func(p *api.Prog) { p.RegInit[1] = append(p.RegInit[1], 1) })
	add("nine registers", func(p *api.Prog) {
		p.Regs[0], p.RegInit[0] = strings.Fields("EAX EBP EBX ECX EDI EDX ESI ESP R8"), make([]int64, 9)
	})
	add("a location's value less", func(p *api.Prog) { p.LocInit = p.LocInit[1:] })
	add("seventeen locations", func(p *api.Prog) {
		p.Locs, p.LocInit = nil, make([]int64, 17)
		for i := range 17 {
			p.Locs = append(p.Locs, fmt.Sprintf("l%02d", i))
		}
	})
	for _, n := range []int{-1, 4, math.MinInt, math.MaxInt} {
		add(fmt.Sprint("a location ", n), func(p *api.Prog) { p.Threads[1][0].Loc = n })
	}
	for _, n := range []int{-1, 0, 10, math.MinInt, math.MaxInt} {
		add(fmt.Sprint("an instruction ", n), func(p *api.Prog) { p.Threads[2][3].Kind = n })
	}
	add("CMPXCHG of another register", func(p *api.Prog) { p.Threads[2][2].Reg = 1 })
	add("many fences", func(p *api.Prog) {
		p.Threads[0] = append(p.Threads[0], slices.Repeat([]api.Op{{Kind: api.OFence}}, 60)...)
	})
	return m
}

// someNumbers is numbers at the edges of what may stand for a place among n, and beyond.
func someNumbers(n int) []int {
	return []int{math.MinInt, -65, -64, -2, -1, 0, 1, n - 1, n, n + 1, 63, 64, 65, 128, math.MaxInt}
}

// someEvent is an unruly event, of no program.
func someEvent(roll func(int) int) api.Event {
	return api.Event{
		Kind:   []int{1, 1, 2, 2, 2, 3, 3, 3, 4, 4, 0, 5, -1, math.MinInt, math.MaxInt}[roll(15)],
		Thread: []int{-1, -1, 0, 0, 0, 1, 1, 1, 2, -2, math.MinInt, math.MaxInt}[roll(12)],
		Index:  []int{0, 0, 0, 1, 1, 2, -1, math.MinInt, math.MaxInt}[roll(9)],
		Loc:    []int{-1, 0, 0, 0, 1, 1, 2, 3, -2, math.MinInt, math.MaxInt}[roll(11)],
		Locked: roll(2) == 0,
	}
}

func someEvents(roll func(int) int, n int) []api.Event {
	var l []api.Event
	for range n {
		l = append(l, someEvent(roll))
	}
	return l
}

// somePlaces is unruly numbers, most of them places among n events.
func somePlaces(roll func(int) int, length, n int) []int {
	var l []int
	for range length {
		if n == 0 || roll(6) == 0 {
			l = append(l, pick(roll, someNumbers(n)))
		} else {
			l = append(l, roll(n))
		}
	}
	return l
}

// someExec is an unruly execution of so many events, of no program; its lists are as long as it comes.
func someExec(roll func(int) int, n int) api.Exec {
	x := api.Exec{Events: someEvents(roll, n)}
	x.From = somePlaces(roll, []int{n, n, n, n / 2, 0, n + 3, 2*n + 70}[roll(7)], n)
	for range []int{n, n, n / 2, 0, n + 3}[roll(5)] {
		x.Values = append(x.Values, []int64{0, 1, -1, 10, math.MinInt64, math.MaxInt64}[roll(6)])
	}
	for range roll(5) {
		x.Order = append(x.Order, somePlaces(roll, []int{0, 1, 2, 3, 5, 9}[roll(6)], n))
	}
	if roll(10) == 0 {
		x.Order = append(x.Order, somePlaces(roll, 200, n))
	}
	return x
}

// someExecs is unruly executions of all lengths, too long ones among them.
func someExecs(roll func(int) int, each int) []api.Exec {
	var l []api.Exec
	for n := range 70 {
		for range each {
			l = append(l, someExec(roll, n))
		}
	}
	for _, n := range []int{128, 129, 1000, 1 << 16} {
		l = append(l, someExec(roll, n))
	}
	return l
}

// wide is v in memory of its own, with room behind each list's end that holds something.
func wide[T any](v T) T {
	widen(reflect.ValueOf(&v).Elem())
	return v
}

func widen(v reflect.Value) {
	switch v.Kind() {
	case reflect.Slice:
		n := v.Len()
		l := reflect.MakeSlice(v.Type(), n+2, n+2)
		reflect.Copy(l, v)
		for i := range n {
			widen(l.Index(i))
		}
		spoil(l.Index(n))
		spoil(l.Index(n + 1))
		v.Set(l.Slice(0, n))
	case reflect.Struct:
		for i := range v.NumField() {
			widen(v.Field(i))
		}
	}
}

// spoil overwrites all that v holds, in the spare room too.
func spoil(v reflect.Value) {
	switch v.Kind() {
	case reflect.Slice:
		for i, l := 0, v.Slice(0, v.Cap()); i < l.Len(); i++ {
			spoil(l.Index(i))
		}
	case reflect.Struct:
		for i := range v.NumField() {
			spoil(v.Field(i))
		}
	case reflect.Int, reflect.Int64:
		v.SetInt(-77)
	case reflect.Bool:
		v.SetBool(true)
	case reflect.String:
		v.SetString("spoilt")
	}
}

// whole is what v and all lists in it hold, their spare room too.
func whole(v reflect.Value) string {
	switch v.Kind() {
	case reflect.Slice:
		s := fmt.Sprint("[", v.Len(), ":")
		for i, l := 0, v.Slice(0, v.Cap()); i < l.Len(); i++ {
			s += whole(l.Index(i)) + " "
		}
		return s + "]"
	case reflect.Struct:
		s := "{"
		for i := range v.NumField() {
			s += whole(v.Field(i)) + " "
		}
		return s + "}"
	}
	return fmt.Sprintf("%#v", v)
}

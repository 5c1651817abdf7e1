package cand_test

import (
	"cmp"
	"fmt"
	"math"
	"reflect"
	"slices"
	"strings"
	"testing"

	"weir/api"
	"weir/litmus"
	"weir/prog"
)

// dice is a row of numbers that look unruly and are the same at every run.
func dice(seed uint64) func(n int) int {
	return func(n int) int {
		seed += 0x9e3779b97f4a7c15
		z := (seed ^ seed>>30) * 0xbf58476d1ce4e5b9
		z = (z ^ z>>27) * 0x94d049bb133111eb
		return int((z ^ z>>31) % uint64(n))
	}
}

func pick[T any](roll func(int) int, l []T) T { return l[roll(len(l))] }

// of is the program of settings and of threads, whose instructions stand with a ; between them.
func of(t *testing.T, settings string, threads ...string) api.Prog {
	t.Helper()
	x := api.Test{Name: "t", Quant: api.Exists, Cond: api.Cond{{Op: api.CTrue}}}
	for _, thread := range threads {
		var l []api.Instr
		for _, text := range strings.FieldsFunc(thread, func(r rune) bool { return r == ';' }) {
			in, err := litmus.Instruction(text)
			if err != nil {
				t.Fatalf("%s: %v", text, err)
			}
			l = append(l, in)
		}
		x.Threads = append(x.Threads, l)
	}
	set, err := litmus.Parse("X86 t {" + settings + "} P0; exists true")
	if err != nil {
		t.Fatalf("%s: %v", settings, err)
	}
	x.Inits = set.Inits
	p, e := prog.Of(x)
	if e != api.OK {
		t.Fatalf("%s: %d", threads, e)
	}
	return p
}

func sb(t *testing.T) api.Prog {
	return of(t, "x=0; y=0", "MOV [x],$1; MOV EAX,[y]", "MOV [y],$1; MOV EAX,[x]")
}

// all is a program with every kind of instruction; no instruction names w.
func all(t *testing.T) api.Prog {
	return of(t, "x=3; 0:EAX=1; 0:EBX=2; 1:EAX=3; 1:R8=-1; w=7",
		"MOV EBX,$-5; MOV [y],EBX; MFENCE; MOV EAX,[z]",
		"LOCK XADD [x],R8; LOCK CMPXCHG [x],R8; MOV R8,EAX; MOV [z],$4",
		"MOV EDI,[x]; XCHG [y],EDI; LOCK CMPXCHG [z],EDI; LOCK CMPXCHG [y],EDI")
}

// bare is a program of so many threads without instructions, registers and locations.
func bare(threads int) api.Prog {
	return api.Prog{Threads: make([][]api.Op, threads), Regs: make([][]string, threads), RegInit: make([][]int64, threads)}
}

// tries is a program of 64 events, 31 of whose instructions are tries, in two threads.
func tries(t *testing.T) api.Prog {
	return of(t, "", strings.Repeat("LOCK CMPXCHG [x],EBX;", 20), "MFENCE;"+strings.Repeat("LOCK CMPXCHG [x],EBX; MOV EAX,EBX;", 11))
}

// someThread is an unruly thread, of every kind of instruction.
func someThread(roll func(int) int, length int) string {
	var l []string
	for range length {
		loc, reg := pick(roll, []string{"x", "y", "z"}), pick(roll, []string{"EAX", "EBX"})
		l = append(l, pick(roll, []string{
			"MOV [" + loc + "],$" + fmt.Sprint(1+roll(3)), "MOV [" + loc + "]," + reg,
			"MOV " + reg + ",[" + loc + "]", "MOV " + reg + ",$" + fmt.Sprint(roll(3)), "MOV EAX,EBX", "MFENCE",
			"XCHG [" + loc + "]," + reg, "LOCK XADD [" + loc + "]," + reg,
			"LOCK CMPXCHG [" + loc + "]," + reg, "LOCK CMPXCHG [" + loc + "]," + reg,
		}))
	}
	return strings.Join(l, ";")
}

// someProg is an unruly program of up to so many instructions, in one to four threads.
func someProg(t *testing.T, roll func(int) int, most int) api.Prog {
	t.Helper()
	threads := make([]string, 1+roll(4))
	for range 1 + roll(most) {
		i := roll(len(threads))
		threads[i] += someThread(roll, 1) + ";"
	}
	return of(t, pick(roll, []string{"", "x=1", "y=-1; 0:EAX=1", "0:EBX=2; x=2; y=1", "x=9223372036854775807; 0:EAX=9223372036854775807", "a=5"}), threads...)
}

// smallProgs is programs at the edges, and unruly ones, of which each has at most so many pairs of a choice of reads and an order of writes.
func smallProgs(t *testing.T, roll func(int) int, n, most int) []api.Prog {
	t.Helper()
	l := []api.Prog{
		sb(t), bare(1), bare(4), of(t, "a=1; b=2", ""), of(t, "", "MFENCE"), of(t, "0:EAX=4", "MOV EAX,EBX; MOV EBX,$-1"),
		of(t, "0:EBX=5", "LOCK CMPXCHG [x],EBX"), of(t, "", "LOCK XADD [x],EAX"), of(t, "", "XCHG [x],EAX; XCHG [x],EAX"),
		of(t, "", "MOV EAX,[x]; MOV [y],EAX", "MOV EAX,[y]; MOV [x],EAX"),
		of(t, "", "MOV [x],$1", "MOV [x],$2", "MOV [x],$3", "MOV [x],$4"),
		// What a try reads, or what EAX has ahead of it, hangs on a read that stands behind it.
		of(t, "y=1; z=1; 0:EBX=2", "MOV EAX,[x]; LOCK CMPXCHG [z],EBX", "MOV EAX,[y]; MOV [x],EAX"),
		of(t, "y=1; 0:EAX=1; 0:EBX=2", "LOCK CMPXCHG [x],EBX", "MOV EAX,[y]; MOV [x],EAX"),
	}
	for len(l) < n {
		p := someProg(t, roll, 7)
		if pairs(p) <= most {
			l = append(l, p)
		}
	}
	return l
}

// greatProgs is programs with very many candidates.
func greatProgs(t *testing.T) map[string]api.Prog {
	m := map[string]api.Prog{
		"all": all(t), "tries": tries(t),
		"tries that fail":            of(t, "0:EAX=3; 0:EBX=5", strings.Repeat("LOCK CMPXCHG [x],EBX;", 31)),
		"tries of threads that fail": of(t, "0:EAX=3; 0:EBX=5; 1:EAX=3; 1:EBX=6; 2:EAX=3", strings.Repeat("LOCK CMPXCHG [x],EBX;", 6), strings.Repeat("LOCK CMPXCHG [x],EBX;", 6), strings.Repeat("LOCK CMPXCHG [x],EBX;", 6)),
		"loads":                      of(t, "", strings.Repeat("MOV EAX,[x];", 31), strings.Repeat("MOV [x],$1;", 32)),
		"sums":                       of(t, "0:EAX=1; 1:EAX=2", strings.Repeat("LOCK XADD [x],EAX;", 15), strings.Repeat("LOCK XADD [x],EAX;", 16)),
		"swaps":                      of(t, "", strings.Repeat("XCHG [x],EAX;", 15), strings.Repeat("XCHG [y],EAX;", 16)),
	}
	var words, settings []string
	for i := range 16 {
		words = append(words, fmt.Sprintf("MOV [l%02d],EAX; MOV EAX,[l%02d]", i, i))
		settings = append(settings, fmt.Sprintf("l%02d=%d", i, i))
	}
	m["locations"] = of(t, strings.Join(settings, ";"), strings.Join(words[:8], ";"), strings.Join(words[8:], ";"), "MOV EAX,[l00]", "MOV EAX,[l15]")
	return m
}

// wrongProgs is programs that are not right, by what is wrong.
func wrongProgs(t *testing.T) map[string]api.Prog {
	m := map[string]api.Prog{"nothing": {}, "five threads": bare(5)}
	add := func(what string, turn func(*api.Prog)) {
		p := all(t)
		turn(&p)
		m[what] = p
	}
	add("a thread less", func(p *api.Prog) { p.Threads = p.Threads[1:] })
	add("a value more", func(p *api.Prog) { p.RegInit[1] = append(p.RegInit[1], 1) })
	add("nine registers", func(p *api.Prog) {
		p.Regs[0], p.RegInit[0] = strings.Fields("EAX EBP EBX ECX EDI EDX ESI ESP R8"), make([]int64, 9)
	})
	add("a location's value less", func(p *api.Prog) { p.LocInit = p.LocInit[1:] })
	add("seventeen locations", func(p *api.Prog) {
		p.Locs, p.LocInit = nil, make([]int64, 17)
		for i := range 17 {
			p.Locs = append(p.Locs, fmt.Sprintf("l%02d", i))
		}
	})
	for _, n := range []int{-1, 4, math.MinInt, math.MaxInt} {
		add(fmt.Sprint("a location ", n), func(p *api.Prog) { p.Threads[1][0].Loc = n })
	}
	for _, n := range []int{-1, 0, 10, math.MinInt, math.MaxInt} {
		add(fmt.Sprint("an instruction ", n), func(p *api.Prog) { p.Threads[2][3].Kind = n })
	}
	add("CMPXCHG of another register", func(p *api.Prog) { p.Threads[2][2].Reg = 1 })
	add("many fences", func(p *api.Prog) {
		p.Threads[0] = append(p.Threads[0], slices.Repeat([]api.Op{{Kind: api.OFence}}, 60)...)
	})
	return m
}

// wide is v in memory of its own, with room behind each list's end that holds something.
func wide[T any](v T) T {
	widen(reflect.ValueOf(&v).Elem())
	return v
}

func widen(v reflect.Value) {
	switch v.Kind() {
	case reflect.Slice:
		n := v.Len()
		l := reflect.MakeSlice(v.Type(), n+2, n+2)
		reflect.Copy(l, v)
		for i := range n {
			widen(l.Index(i))
		}
		spoil(l.Index(n))
		spoil(l.Index(n + 1))
		v.Set(l.Slice(0, n))
	case reflect.Struct:
		for i := range v.NumField() {
			widen(v.Field(i))
		}
	}
}

// spoil overwrites all that v holds, in the spare room too.
func spoil(v reflect.Value) {
	switch v.Kind() {
	case reflect.Slice:
		for i, l := 0, v.Slice(0, v.Cap()); i < l.Len(); i++ {
			spoil(l.Index(i))
		}
	case reflect.Struct:
		for i := range v.NumField() {
			spoil(v.Field(i))
		}
	case reflect.Int, reflect.Int64:
		v.SetInt(-77)
	case reflect.Bool:
		v.SetBool(true)
	case reflect.String:
		v.SetString("spoilt")
	}
}

// whole is what v and all lists in it hold, their spare room too.
func whole(v reflect.Value) string {
	switch v.Kind() {
	case reflect.Slice:
		s := fmt.Sprint("[", v.Len(), ":")
		for i, l := 0, v.Slice(0, v.Cap()); i < l.Len(); i++ {
			s += whole(l.Index(i)) + " "
		}
		return s + "]"
	case reflect.Struct:
		s := "{"
		for i := range v.NumField() {
			s += whole(v.Field(i)) + " "
		}
		return s + "}"
	}
	return fmt.Sprintf("%#v", v)
}

// span is where a list lies in memory, with its spare room.
type span struct{ begin, end uintptr }

// spans is where all lists of v lie.
func spans(v reflect.Value) []span {
	var l []span
	switch v.Kind() {
	case reflect.Slice:
		if v.Cap() > 0 {
			l = append(l, span{v.Pointer(), v.Pointer() + uintptr(v.Cap())*v.Type().Elem().Size()})
		}
		for i, all := 0, v.Slice(0, v.Cap()); i < all.Len(); i++ {
			l = append(l, spans(all.Index(i))...)
		}
	case reflect.Struct:
		for i := range v.NumField() {
			l = append(l, spans(v.Field(i))...)
		}
	}
	return l
}

// apart holds all lists of some values against each other: no two may share memory.
func apart(t *testing.T, values ...any) {
	t.Helper()
	var l []span
	for _, v := range values {
		l = append(l, spans(reflect.ValueOf(v))...)
	}
	slices.SortFunc(l, func(a, b span) int { return cmp.Compare(a.begin, b.begin) })
	for i := 1; i < len(l); i++ {
		if l[i].begin < l[i-1].end {
			t.Fatalf("two lists share memory")
		}
	}
}

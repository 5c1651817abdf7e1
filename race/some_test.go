package race_test

import (
	"cmp"
	"fmt"
	"math"
	"reflect"
	"slices"
	"strings"
	"testing"

	"weir/api"
	"weir/litmus"
	"weir/prog"
)

// dice is a row of numbers that look unruly and are the same at every run.
func dice(seed uint64) func(n int) int {
	return func(n int) int {
		seed += 0x9e3779b97f4a7c15
		z := (seed ^ seed>>30) * 0xbf58476d1ce4e5b9
		z = (z ^ z>>27) * 0x94d049bb133111eb
		return int((z ^ z>>31) % uint64(n))
	}
}

func pick[T any](roll func(int) int, l []T) T { return l[roll(len(l))] }

// of is the program of settings and of threads, whose instructions stand with a ; between them.
func of(t *testing.T, settings string, threads ...string) api.Prog {
	t.Helper()
	x := api.Test{Name: "t", Quant: api.Exists, Cond: api.Cond{{Op: api.CTrue}}}
	for _, thread := range threads {
		var l []api.Instr
		for _, text := range strings.FieldsFunc(thread, func(r rune) bool { return r == ';' }) {
			in, err := litmus.Instruction(text)
			if err != nil {
				t.Fatalf("%s: %v", text, err)
			}
			l = append(l, in)
		}
		x.Threads = append(x.Threads, l)
	}
	set, err := litmus.Parse("X86 t {" + settings + "} P0; exists true")
	if err != nil {
		t.Fatalf("%s: %v", settings, err)
	}
	x.Inits = set.Inits
	p, e := prog.Of(x)
	if e != api.OK {
		t.Fatalf("%s: %d", threads, e)
	}
	return p
}

func sb(t *testing.T) api.Prog {
	return of(t, "x=0; y=0", "MOV [x],$1; MOV EAX,[y]", "MOV [y],$1; MOV EAX,[x]")
}

func mp(t *testing.T) api.Prog {
	return of(t, "", "MOV [x],$1; MOV [y],$1", "MOV EAX,[y]; MOV EBX,[x]")
}

// all is a program with every kind of instruction; no instruction names w.
func all(t *testing.T) api.Prog {
	return of(t, "x=3; 0:EAX=1; 0:EBX=2; 1:EAX=3; 1:R8=-1; w=7",
		"MOV EBX,$-5; MOV [y],EBX; MOV EAX,[x]; MFENCE; MOV EAX,[z]",
		"LOCK XADD [x],R8; LOCK CMPXCHG [x],R8; MOV R8,EAX; MOV [z],$4; MOV EAX,[y]",
		"MOV EDI,[x]; XCHG [y],EDI; LOCK CMPXCHG [z],EDI")
}

// bare is a program of so many threads without instructions, registers and locations.
func bare(threads int) api.Prog {
	return api.Prog{Threads: make([][]api.Op, threads), Regs: make([][]string, threads), RegInit: make([][]int64, threads)}
}

// wait is fences, which add so many events to a thread's end.
func wait(n int) string { return strings.Repeat(";MFENCE", n) }

// someInstr is an unruly instruction, of every kind, most often a plain one.
func someInstr(roll func(int) int) string {
	loc, reg := pick(roll, []string{"x", "y", "z"}), pick(roll, []string{"EAX", "EBX"})
	load, store := "MOV "+reg+",["+loc+"]", "MOV ["+loc+"],$"+fmt.Sprint(1+roll(3))
	return pick(roll, []string{
		load, load, load, load, store, store, store, "MOV [" + loc + "]," + reg,
		"MOV " + reg + ",$" + fmt.Sprint(roll(3)), "MOV EAX,EBX", "MFENCE",
		"XCHG [" + loc + "]," + reg, "LOCK XADD [" + loc + "]," + reg, "LOCK CMPXCHG [" + loc + "]," + reg,
	})
}

// lockedInstr is one that is locked, or touches nothing.
func lockedInstr(roll func(int) int) string {
	for {
		in := someInstr(roll)
		if !strings.Contains(in, "[") || strings.HasPrefix(in, "LOCK") || strings.HasPrefix(in, "XCHG") {
			return in
		}
	}
}

func someSettings() []string {
	return []string{"", "x=1", "y=-1; 0:EAX=1", "0:EBX=2; x=2; y=1", "x=9223372036854775807; 0:EAX=9223372036854775807", "a=5"}
}

// someProg is an unruly program of up to so many such instructions, in one to four threads.
func someProg(t *testing.T, roll func(int) int, most int, instr func(func(int) int) string) api.Prog {
	t.Helper()
	threads := make([]string, 1+roll(4))
	for range 1 + roll(most) {
		threads[roll(len(threads))] += instr(roll) + ";"
	}
	return of(t, pick(roll, someSettings()), threads...)
}

// someShape is two or three threads that most often write a location and then read the next one, with something between: there triangular races and others lie near to each other.
func someShape(t *testing.T, roll func(int) int) api.Prog {
	t.Helper()
	locs := []string{"x", "y", "z"}[:2+roll(4)/3]
	var l []string
	for i, x := range locs {
		y, other := locs[(i+1)%len(locs)], pick(roll, locs)
		first, last := "MOV ["+x+"],$1", "MOV EBX,["+y+"]"
		between := pick(roll, []string{"", "", "MOV EDX,[" + x + "];", "MOV EDX,$1;", "MOV [" + other + "],$2;", "MFENCE;", "LOCK XADD [w],EDX;"})
		switch roll(12) {
		case 0:
			first = "MOV EAX,[" + x + "]"
		case 1:
			first = "XCHG [" + x + "],EAX"
		case 2:
			last = "LOCK CMPXCHG [" + y + "],ECX"
		case 3:
			last = "MOV [" + y + "],$2"
		}
		l = append(l, first+";"+between+last)
	}
	return of(t, pick(roll, []string{"", "0:ECX=1; 1:ECX=2", "x=1; 1:EAX=1; 0:ECX=7"}), l...)
}

// knownProgs is programs that people know, and some at the edges.
func knownProgs(t *testing.T) []api.Prog {
	t.Helper()
	return []api.Prog{
		sb(t), mp(t), all(t), bare(1), bare(4), of(t, "a=1; b=2", ""), of(t, "", "MFENCE"), of(t, "0:EAX=4", "MOV EAX,EBX; MOV EBX,$-1"),
		of(t, "", "MOV [x],$1; MFENCE; MOV EAX,[y]", "MOV [y],$1; MFENCE; MOV EAX,[x]"),
		of(t, "", "MOV [x],$1; MOV [y],$2", "MOV [y],$1; MOV [x],$2"),
		of(t, "", "MOV EAX,[x]; MOV [y],$1", "MOV EAX,[y]; MOV [x],$1"),
		of(t, "", "MOV [x],$1; MOV EAX,[x]; MOV EBX,[y]", "MOV [y],$1; MOV EAX,[y]; MOV EBX,[x]"),
		of(t, "0:EAX=1; 1:EAX=1", "LOCK XADD [x],EAX", "LOCK XADD [x],EAX"),
		of(t, "0:EAX=1; 1:EAX=1", "XCHG [x],EAX; MOV EBX,[y]", "XCHG [y],EAX; MOV EBX,[x]"),
		of(t, "", "MOV [x],$1; MOV EAX,[y]", "MOV [y],$1; MOV EAX,[z]", "MOV [z],$1; MOV EAX,[x]"),
		// A load behind a store of its thread, which nobody but a locked instruction writes.
		of(t, "", "MOV [x],$1; MOV EAX,[y]", "XCHG [y],EAX; MOV EAX,[x]"),
		// The same location.
		of(t, "", "MOV [x],$1; MOV EAX,[x]", "MOV [x],$2; MOV EAX,[x]"),
		// A lock that is taken by XCHG and given back by a store.
		of(t, "0:EAX=1; 1:EAX=1", "XCHG [l],EAX; MOV [x],$1; MOV [l],$0", "XCHG [l],EAX; MOV EBX,[x]; MOV [l],$0"),
	}
}

// smallProgs is those, and unruly ones.
func smallProgs(t *testing.T, roll func(int) int, n int) []api.Prog {
	t.Helper()
	l := knownProgs(t)
	for len(l) < n {
		if roll(2) == 0 {
			l = append(l, someProg(t, roll, 9, someInstr))
		} else {
			l = append(l, someShape(t, roll))
		}
	}
	return l
}

// greatProgs is programs of up to 64 events whose runs can't be gone through.
func greatProgs(t *testing.T) []api.Prog {
	t.Helper()
	l := []api.Prog{
		of(t, "", "MOV [x],$1;"+strings.Repeat("MOV EAX,[x];", 31), "MOV [x],$1;"+strings.Repeat("MOV EAX,[x];", 30)),
		of(t, "", strings.Repeat("MOV [x],$1; MOV EAX,[y];", 8), strings.Repeat("MOV [y],$1; MOV EAX,[x];", 8), strings.Repeat("MOV [y],$1; MOV EAX,[x];", 8), strings.Repeat("MOV [x],$1; MOV EAX,[y];", 7)),
		of(t, "", "MOV [x],$1", strings.Repeat("MOV EAX,EBX; MOV EBX,$5;", 5000)+"MOV [x],EAX;"+strings.Repeat("MOV EAX,$1;", 5000)+"MOV EAX,[y]", strings.Repeat("MOV EAX,$1;", 5000)+"MOV [y],EAX;"+strings.Repeat("MOV EBX,EAX;", 5000)+"MOV EAX,[x]"),
	}
	roll := dice(2900)
	for range 200 {
		threads := make([]string, 1+roll(4))
		for i := range threads {
			for range roll(11) {
				threads[i] += someInstr(roll) + ";"
			}
		}
		l = append(l, of(t, pick(roll, someSettings()), threads...))
	}
	return l
}

// wrongProgs is programs that are not right, by what is wrong.
func wrongProgs(t *testing.T) map[string]api.Prog {
	m := map[string]api.Prog{"nothing": {}, "five threads": bare(5)}
	add := func(what string, turn func(*api.Prog)) {
		p := all(t)
		turn(&p)
		m[what] = p
	}
	add("a thread less", func(p *api.Prog) { p.Threads = p.Threads[1:] })
	add("a value more", func(p *api.Prog) { p.RegInit[1] = append(p.RegInit[1], 1) })
	add("nine registers", func(p *api.Prog) {
		p.Regs[0], p.RegInit[0] = strings.Fields("EAX EBP EBX ECX EDI EDX ESI ESP R8"), make([]int64, 9)
	})
	add("a location's value less", func(p *api.Prog) { p.LocInit = p.LocInit[1:] })
	add("seventeen locations", func(p *api.Prog) {
		p.Locs, p.LocInit = nil, make([]int64, 17)
		for i := range 17 {
			p.Locs = append(p.Locs, fmt.Sprintf("l%02d", i))
		}
	})
	for _, n := range []int{-1, 4, math.MinInt, math.MaxInt} {
		add(fmt.Sprint("a location ", n), func(p *api.Prog) { p.Threads[1][0].Loc = n })
	}
	for _, n := range []int{-1, 0, 10, math.MinInt, math.MaxInt} {
		add(fmt.Sprint("an instruction ", n), func(p *api.Prog) { p.Threads[2][2].Kind = n })
	}
	add("CMPXCHG of another register", func(p *api.Prog) { p.Threads[2][2].Reg = 1 })
	add("many fences", func(p *api.Prog) {
		p.Threads[0] = append(p.Threads[0], slices.Repeat([]api.Op{{Kind: api.OFence}}, 60)...)
	})
	return m
}

// told is a program's text: the same of programs that differ in nothing but in lists that are nil or empty.
func told(p api.Prog) string { return fmt.Sprint(p) }

// wide is v in memory of its own, with room behind each list's end that holds something.
func wide[T any](v T) T {
	widen(reflect.ValueOf(&v).Elem())
	return v
}

func widen(v reflect.Value) {
	switch v.Kind() {
	case reflect.Slice:
		n := v.Len()
		l := reflect.MakeSlice(v.Type(), n+2, n+2)
		reflect.Copy(l, v)
		for i := range n {
			widen(l.Index(i))
		}
		spoil(l.Index(n))
		spoil(l.Index(n + 1))
		v.Set(l.Slice(0, n))
	case reflect.Struct:
		for i := range v.NumField() {
			widen(v.Field(i))
		}
	}
}

// spoil overwrites all that v holds, in the spare room too.
func spoil(v reflect.Value) {
	switch v.Kind() {
	case reflect.Slice:
		for i, l := 0, v.Slice(0, v.Cap()); i < l.Len(); i++ {
			spoil(l.Index(i))
		}
	case reflect.Struct:
		for i := range v.NumField() {
			spoil(v.Field(i))
		}
	case reflect.Int, reflect.Int64:
		v.SetInt(-77)
	case reflect.String:
		v.SetString("spoilt")
	}
}

// whole is what v and all lists in it hold, their spare room too.
func whole(v reflect.Value) string {
	switch v.Kind() {
	case reflect.Slice:
		s := fmt.Sprint("[", v.Len(), ":")
		for i, l := 0, v.Slice(0, v.Cap()); i < l.Len(); i++ {
			s += whole(l.Index(i)) + " "
		}
		return s + "]"
	case reflect.Struct:
		s := "{"
		for i := range v.NumField() {
			s += whole(v.Field(i)) + " "
		}
		return s + "}"
	}
	return fmt.Sprintf("%#v", v)
}

// span is where a list lies in memory, with its spare room.
type span struct{ begin, end uintptr }

// spans is where all lists of v lie.
func spans(v reflect.Value) []span {
	var l []span
	switch v.Kind() {
	case reflect.Slice:
		if v.Cap() > 0 {
			l = append(l, span{v.Pointer(), v.Pointer() + uintptr(v.Cap())*v.Type().Elem().Size()})
		}
		for i, all := 0, v.Slice(0, v.Cap()); i < all.Len(); i++ {
			l = append(l, spans(all.Index(i))...)
		}
	case reflect.Struct:
		for i := range v.NumField() {
			l = append(l, spans(v.Field(i))...)
		}
	}
	return l
}

// unshared holds all lists of some values against each other: no two may share memory.
func unshared(t *testing.T, values ...any) {
	t.Helper()
	var l []span
	for _, v := range values {
		l = append(l, spans(reflect.ValueOf(v))...)
	}
	slices.SortFunc(l, func(a, b span) int { return cmp.Compare(a.begin, b.begin) })
	for i := 1; i < len(l); i++ {
		if l[i].begin < l[i-1].end {
			t.Fatalf("two lists share memory")
		}
	}
}

package reduce_test

import (
	"fmt"
	"math"
	"reflect"
	"slices"
	"strings"
	"testing"

	"weir/api"
	"weir/litmus"
	"weir/prog"
	"weir/pso"
	"weir/sc"
)

// dice is a row of numbers that look unruly and are the same at every run.
func dice(seed uint64) func(n int) int {
	return func(n int) int {
		seed += 0x9e3779b97f4a7c15
		z := (seed ^ seed>>30) * 0xbf58476d1ce4e5b9
		z = (z ^ z>>27) * 0x94d049bb133111eb
		return int((z ^ z>>31) % uint64(n))
	}
}

func pick[T any](roll func(int) int, l []T) T { return l[roll(len(l))] }

// of is the program of settings and of threads, whose instructions stand with a ; between them.
func of(t *testing.T, settings string, threads ...string) api.Prog {
	t.Helper()
	x := api.Test{Name: "t", Quant: api.Exists, Cond: api.Cond{{Op: api.CTrue}}}
	for _, thread := range threads {
		var l []api.Instr
		for _, text := range strings.FieldsFunc(thread, func(r rune) bool { return r == ';' }) {
			in, err := litmus.Instruction(text)
			if err != nil {
				t.Fatalf("%s: %v", text, err)
			}
			l = append(l, in)
		}
		x.Threads = append(x.Threads, l)
	}
	set, err := litmus.Parse("X86 t {" + settings + "} P0; exists true")
	if err != nil {
		t.Fatalf("%s: %v", settings, err)
	}
	x.Inits = set.Inits
	p, e := prog.Of(x)
	if e != api.OK {
		t.Fatalf("%s: %d", threads, e)
	}
	return p
}

func sb(t *testing.T) api.Prog {
	return of(t, "x=0; y=0", "MOV [x],$1; MOV EAX,[y]", "MOV [y],$1; MOV EAX,[x]")
}

func mp(t *testing.T) api.Prog {
	return of(t, "x=0; y=0", "MOV [x],$1; MOV [y],$1", "MOV EAX,[y]; MOV EBX,[x]")
}

// all is a program with every kind of instruction.
func all(t *testing.T) api.Prog {
	return of(t, "x=3; 0:EAX=1; 0:EBX=2; 1:EAX=3; 1:R8=-1; z=7",
		"MOV EBX,$-5; MOV [y],EBX; MFENCE; MOV EAX,[z]",
		"LOCK XADD [x],R8; LOCK CMPXCHG [x],R8; MOV R8,EAX; MOV [z],$4",
		"MOV EDI,[x]; XCHG [y],EDI; LOCK CMPXCHG [z],EDI; LOCK XADD [z],EAX")
}

// fullest is a program at all bounds: four threads of eight registers, sixteen locations, 64 events.
func fullest() api.Prog {
	names := strings.Fields("EAX EBP EBX ECX EDI EDX ESI ESP R10 R11 R12 R13 R14 R15 R8 R9")
	p := api.Prog{}
	for i := range 16 {
		p.Locs, p.LocInit = append(p.Locs, fmt.Sprintf("l%02d", i)), append(p.LocInit, int64(100+i))
	}
	for i := range 4 {
		p.Regs = append(p.Regs, slices.Clone(names[i:i+8]))
		p.RegInit = append(p.RegInit, []int64{1, 2, 3, math.MinInt64, math.MaxInt64, 6, -7, int64(i)})
		var l []api.Op
		for k := range 3 {
			l = append(l, api.Op{Kind: api.OStoreReg, Src: k, Loc: 15 - 5*i}, api.Op{Kind: api.OXadd, Reg: 3 + k, Loc: 7*k + i%2}, api.Op{Kind: api.OStoreImm, Imm: 9, Loc: 5*k + i})
		}
		p.Threads = append(p.Threads, l)
	}
	return p
}

// bare is a program of so many threads without instructions, registers and locations.
func bare(threads int) api.Prog {
	return api.Prog{Threads: make([][]api.Op, threads), Regs: make([][]string, threads), RegInit: make([][]int64, threads)}
}

// someThread is an unruly thread, of every kind of instruction alike.
func someThread(roll func(int) int, length int) string {
	var l []string
	for range length {
		loc, reg := pick(roll, []string{"x", "y", "z"}[:2+roll(2)]), pick(roll, []string{"EAX", "EBX"})
		l = append(l, pick(roll, []string{
			"MOV [" + loc + "],$" + fmt.Sprint(1+roll(3)), "MOV [" + loc + "]," + reg,
			"MOV " + reg + ",[" + loc + "]", "MOV " + reg + ",[" + loc + "]",
			"MOV " + reg + ",$" + fmt.Sprint(roll(3)), "MOV EAX,EBX", "MFENCE",
			"XCHG [" + loc + "]," + reg, "LOCK XADD [" + loc + "]," + reg, "LOCK CMPXCHG [" + loc + "]," + reg,
		}))
	}
	return strings.Join(l, ";")
}

// someShape is an unruly thread; every other one is of those by which the models differ, with something unruly around it.
func someShape(roll func(int) int, length int) string {
	if length < 2 || roll(2) == 0 {
		return someThread(roll, length)
	}
	shape := pick(roll, []string{"MOV [x],$1; MOV EAX,[y]", "MOV [y],$1; MOV EAX,[x]", "MOV [x],$2; MOV [y],$2", "MOV EAX,[y]; MOV EBX,[x]"})
	if roll(2) == 0 {
		return shape + ";" + someThread(roll, length-2)
	}
	return someThread(roll, length-2) + ";" + shape
}

// someProg is an unruly program of threads that are not longer than said.
func someProg(t *testing.T, roll func(int) int, threads, longest int) api.Prog {
	t.Helper()
	var l []string
	for range 1 + roll(threads) {
		l = append(l, someThread(roll, roll(longest+1)))
	}
	return of(t, pick(roll, []string{"", "x=1", "x=2; y=-1; 0:EAX=1; 0:EBX=2", "0:EBX=3"}), l...)
}

// someProgs is programs at the edges, and unruly ones.
func someProgs(t *testing.T, roll func(int) int, n int) []api.Prog {
	t.Helper()
	l := []api.Prog{sb(t), mp(t), all(t), fullest(), bare(1), bare(4)}
	for range n {
		l = append(l, someProg(t, roll, 4, 4))
	}
	return l
}

func someValues() []int64 {
	return []int64{0, 0, 0, 1, 1, 2, -1, math.MaxInt64, math.MinInt64}
}

// someState is an unruly state of a program, proper or not.
func someState(roll func(int) int, p api.Prog) api.State {
	s := api.State{Lock: roll(len(p.Threads)+1) - 1}
	for i, l := range p.Threads {
		s.PC = append(s.PC, roll(len(l)+1))
		s.Phase = append(s.Phase, roll(3))
		s.Regs = append(s.Regs, nil)
		for range p.Regs[i] {
			s.Regs[i] = append(s.Regs[i], pick(roll, someValues()))
		}
		s.Buf = append(s.Buf, nil)
		for range []int{0, 0, 0, 1, 2, 3, 63, 64}[roll(8)] * min(1, len(p.Locs)) {
			s.Buf[i] = append(s.Buf[i], api.Write{Loc: roll(len(p.Locs)), Value: pick(roll, someValues())})
		}
	}
	for range p.Locs {
		s.Mem = append(s.Mem, pick(roll, someValues()))
	}
	return s
}

// someProper is an unruly state in which a model's machine can do something, if a thread is not done; where it can be, every other time one thread holds the lock.
func (w words) someProper(roll func(int) int) api.State {
	s := someState(roll, w.p)
	clear(s.Phase)
	s.Lock = -1
	switch w.model {
	case api.MSC:
		clear(s.Buf)
		return s
	case api.MPSO:
		s = pso.Sorted(s)
	}
	if i := roll(len(s.PC)); isLocked(w.next(s, i)) && roll(2) == 0 {
		s.Lock, s.Phase[i] = i, 1+roll(2)
	}
	return s
}

// start is a program's start.
func start(t *testing.T, p api.Prog) api.State {
	t.Helper()
	s, e := sc.Start(p)
	if e != api.OK {
		t.Fatalf("Start(%.300s): %d", fmt.Sprint(p), e)
	}
	return s
}

// wrongProgs is programs that are not right, by what is wrong.
func wrongProgs(t *testing.T) map[string]api.Prog {
	m := map[string]api.Prog{"nothing": {}, "five threads": bare(5)}
	add := func(what string, turn func(*api.Prog)) {
		p := all(t)
		turn(&p)
		m[what] = p
	}
	add("no threads", func(p *api.Prog) { p.Threads = nil })
	add("a thread less", func(p *api.Prog) { p.Threads = p.Threads[1:] })
	add("a thread more", func(p *api.Prog) { p.Threads = append(p.Threads, nil) })
	add("a value more", func(p *api.Prog) { p.RegInit[1] = append(p.RegInit[1], 1) })
	add("nine registers", func(p *api.Prog) {
		p.Regs[0], p.RegInit[0] = strings.Fields("EAX EBP EBX ECX EDI EDX ESI ESP R8"), make([]int64, 9)
	})
	add("a location's value less", func(p *api.Prog) { p.LocInit = p.LocInit[1:] })
	add("seventeen locations", func(p *api.Prog) {
		p.Locs, p.LocInit = nil, make([]int64, 17)
		for i := range 17 {
			p.Locs = append(p.Locs, fmt.Sprintf("l%02d", i))
		}
	})
	for _, n := range []int{-1, 3, math.MinInt, math.MaxInt} {
		add(fmt.Sprint("a register ", n), func(p *api.Prog) { p.Threads[0][0].Reg = n })
		add(fmt.Sprint("a location ", n), func(p *api.Prog) { p.Threads[1][0].Loc = n })
	}
	for _, n := range []int{-1, 0, 10, math.MinInt, math.MaxInt} {
		add(fmt.Sprint("an instruction ", n), func(p *api.Prog) { p.Threads[2][3].Kind = n })
	}
	add("CMPXCHG of another register", func(p *api.Prog) { p.Threads[2][2].Reg = 1 })
	add("many fences", func(p *api.Prog) {
		p.Threads[0] = append(p.Threads[0], slices.Repeat([]api.Op{{Kind: api.OFence}}, 60)...)
	})
	return m
}

// twists is what makes of a state of the program all one that is none of it.
func twists() map[string]func(*api.State) {
	m := map[string]func(*api.State){
		"a PC more":                 func(s *api.State) { s.PC = append(s.PC, 0) },
		"a PC less":                 func(s *api.State) { s.PC = s.PC[1:] },
		"a Phase more":              func(s *api.State) { s.Phase = append(s.Phase, 0) },
		"a Phase less":              func(s *api.State) { s.Phase = s.Phase[1:] },
		"a thread's registers more": func(s *api.State) { s.Regs = append(s.Regs, nil) },
		"a thread's registers less": func(s *api.State) { s.Regs = s.Regs[:2] },
		"a value of memory more":    func(s *api.State) { s.Mem = append(s.Mem, 0) },
		"a value of memory less":    func(s *api.State) { s.Mem = s.Mem[1:] },
		"a buffer more":             func(s *api.State) { s.Buf = append(s.Buf, nil) },
		"a buffer less":             func(s *api.State) { s.Buf = s.Buf[1:] },
		"nothing":                   func(s *api.State) { *s = api.State{} },
	}
	for _, n := range []int{math.MinInt, -2, 3, math.MaxInt} {
		m[fmt.Sprint("Lock ", n)] = func(s *api.State) { s.Lock = n }
	}
	for i := range 3 {
		for _, n := range []int{math.MinInt, -1, 5, math.MaxInt} {
			m[fmt.Sprint("PC ", n, " of ", i)] = func(s *api.State) { s.PC[i] = n }
			m[fmt.Sprint("Phase ", n, " of ", i)] = func(s *api.State) { s.Phase[i] = n }
			m[fmt.Sprint("Loc ", n, " of ", i)] = func(s *api.State) { s.Buf[i] = []api.Write{{}, {Loc: n}} }
		}
		m[fmt.Sprint("a register more of ", i)] = func(s *api.State) { s.Regs[i] = append(s.Regs[i], 0) }
		m[fmt.Sprint("a register less of ", i)] = func(s *api.State) { s.Regs[i] = s.Regs[i][1:] }
		m[fmt.Sprint("65 writes of ", i)] = func(s *api.State) { s.Buf[i] = make([]api.Write, 65) }
	}
	return m
}

// wide is v in memory of its own, with room behind each list's end that holds something.
func wide[T any](v T) T {
	widen(reflect.ValueOf(&v).Elem())
	return v
}

func widen(v reflect.Value) {
	switch v.Kind() {
	case reflect.Slice:
		n := v.Len()
		l := reflect.MakeSlice(v.Type(), n+2, n+2)
		reflect.Copy(l, v)
		for i := range n {
			widen(l.Index(i))
		}
		spoil(l.Index(n))
		spoil(l.Index(n + 1))
		v.Set(l.Slice(0, n))
	case reflect.Struct:
		for i := range v.NumField() {
			widen(v.Field(i))
		}
	}
}

// spoil overwrites all that v holds, in the spare room too.
func spoil(v reflect.Value) {
	switch v.Kind() {
	case reflect.Slice:
		for i, l := 0, v.Slice(0, v.Cap()); i < l.Len(); i++ {
			spoil(l.Index(i))
		}
	case reflect.Struct:
		for i := range v.NumField() {
			spoil(v.Field(i))
		}
	case reflect.Int, reflect.Int64:
		v.SetInt(-77)
	case reflect.String:
		v.SetString("spoilt")
	}
}

// whole is what v and all lists in it hold, their spare room too.
func whole(v reflect.Value) string {
	switch v.Kind() {
	case reflect.Slice:
		s := fmt.Sprint("[", v.Len(), ":")
		for i, l := 0, v.Slice(0, v.Cap()); i < l.Len(); i++ {
			s += whole(l.Index(i)) + " "
		}
		return s + "]"
	case reflect.Struct:
		s := "{"
		for i := range v.NumField() {
			s += whole(v.Field(i)) + " "
		}
		return s + "}"
	}
	return fmt.Sprintf("%#v", v)
}

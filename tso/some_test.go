package tso_test

import (
	"fmt"
	"math"
	"reflect"
	"slices"
	"strings"
	"testing"

	"weir/api"
	"weir/prog"
)

// dice is a row of numbers that look unruly and are the same at every run.
func dice(seed uint64) func(n int) int {
	return func(n int) int {
		seed += 0x9e3779b97f4a7c15
		z := (seed ^ seed>>30) * 0xbf58476d1ce4e5b9
		z = (z ^ z>>27) * 0x94d049bb133111eb
		return int((z ^ z>>31) % uint64(n))
	}
}

func pick[T any](roll func(int) int, l []T) T { return l[roll(len(l))] }

// sb is the program of the chapter's examples.
func sb(t *testing.T) api.Prog {
	return of(t, "x=0; y=0", "MOV [x],$1|MOV [y],$1; MOV EAX,[y]|MOV EAX,[x]")
}

// all is a program with every kind of instruction.
func all(t *testing.T) api.Prog {
	return of(t, "x=3; 0:EAX=1; 0:EBX=2; 1:EAX=3; 1:R8=-1; z=7", `
		MOV EBX,$-5      |LOCK XADD [x],R8     |MOV EDI,[x]          ;
		MOV [y],EBX      |LOCK CMPXCHG [x],R8  |XCHG [y],EDI         ;
		MFENCE           |MOV R8,EAX           |LOCK CMPXCHG [z],EDI ;
		MOV EAX,[z]      |MOV [z],$4           |LOCK XADD [z],EAX    `)
}

// fullest is a program at all bounds: four threads of eight registers, sixteen locations, 64 events.
func fullest() api.Prog {
	names := strings.Fields("EAX EBP EBX ECX EDI EDX ESI ESP R10 R11 R12 R13 R14 R15 R8 R9")
	p := api.Prog{}
	for i := range 16 {
		p.Locs = append(p.Locs, fmt.Sprintf("l%02d", i))
		p.LocInit = append(p.LocInit, int64(100+i))
	}
	for i := range 4 {
		p.Regs = append(p.Regs, slices.Clone(names[i:i+8]))
		p.RegInit = append(p.RegInit, []int64{1, 2, 3, math.MinInt64, math.MaxInt64, 6, -7, int64(i)})
		var l []api.Op
		for k := range 6 {
			l = append(l, api.Op{Kind: api.OXadd, Reg: k, Loc: 15 - i}, api.Op{Kind: api.OMovReg, Reg: 7, Src: k})
		}
		p.Threads = append(p.Threads, l)
	}
	return p
}

// bare is a program of so many threads without instructions, registers and locations.
func bare(threads int) api.Prog {
	return api.Prog{Threads: make([][]api.Op, threads), Regs: make([][]string, threads), RegInit: make([][]int64, threads)}
}

func someValues() []int64 {
	return []int64{0, 0, 0, 1, 1, 2, -1, math.MaxInt64, math.MinInt64}
}

// someProg is an unruly program of few short threads.
func someProg(roll func(int) int, threads, longest int) api.Prog {
	p := api.Prog{Locs: []string{"x", "y", "z"}[:roll(4)]}
	for range p.Locs {
		p.LocInit = append(p.LocInit, pick(roll, someValues()))
	}
	for range 1 + roll(threads) {
		regs := [][]string{nil, {"EAX"}, {"EBX", "R8"}, {"EAX", "EBX"}, {"EAX", "EBX", "R15"}}[roll(5)]
		var init []int64
		for range regs {
			init = append(init, pick(roll, someValues()))
		}
		var l []api.Op
		for range roll(longest + 1) {
			l = append(l, someOp(roll, regs, len(p.Locs)))
		}
		p.Threads, p.Regs, p.RegInit = append(p.Threads, l), append(p.Regs, regs), append(p.RegInit, init)
	}
	return p
}

// someOp is an unruly instruction over some registers and locations.
func someOp(roll func(int) int, regs []string, locs int) api.Op {
	for range 20 {
		op := api.Op{Kind: 1 + roll(9), Reg: roll(3), Src: roll(3), Loc: roll(3)}
		switch op.Kind {
		case api.OMovImm:
			op.Src, op.Loc, op.Imm = 0, 0, pick(roll, someValues())
		case api.OMovReg:
			op.Loc = 0
		case api.OStoreImm:
			op.Reg, op.Src, op.Imm = 0, 0, pick(roll, someValues())
		case api.OStoreReg:
			op.Reg = 0
		case api.OLoad, api.OXchg, api.OXadd:
			op.Src = 0
		case api.OCmpxchg:
			op.Reg = 0
		case api.OFence:
			op = api.Op{Kind: api.OFence}
		}
		one := api.Prog{Threads: [][]api.Op{{op}}, Regs: [][]string{regs}, Locs: []string{"x", "y", "z"}[:locs], RegInit: [][]int64{make([]int64, len(regs))}, LocInit: make([]int64, locs)}
		if prog.Valid(one) == api.OK {
			return op
		}
	}
	return api.Op{Kind: api.OFence}
}

// busyProg is an unruly program of two or three threads that are all busy with x and y.
func busyProg(roll func(int) int) api.Prog {
	p := api.Prog{Locs: []string{"x", "y"}, LocInit: []int64{0, int64(roll(2))}}
	threads := 2 + roll(5)/4
	for range threads {
		p.Regs, p.RegInit = append(p.Regs, []string{"EAX", "EBX"}), append(p.RegInit, []int64{int64(roll(2)), 2})
		var l []api.Op
		for range 2 + roll(6-threads) {
			kind := pick(roll, []int{api.OLoad, api.OLoad, api.OLoad, api.OStoreImm, api.OStoreImm, api.OStoreReg, 1 + roll(9)})
			op := someOp(roll, p.Regs[0], 2)
			for op.Kind != kind {
				op = someOp(roll, p.Regs[0], 2)
			}
			l = append(l, op)
		}
		p.Threads = append(p.Threads, l)
	}
	return p
}

// someState is an unruly state of a program.
func someState(roll func(int) int, p api.Prog) api.State {
	s := api.State{Lock: roll(len(p.Threads)+1) - 1}
	for i, l := range p.Threads {
		s.PC = append(s.PC, roll(len(l)+1))
		s.Phase = append(s.Phase, roll(3))
		s.Regs = append(s.Regs, nil)
		for range p.Regs[i] {
			s.Regs[i] = append(s.Regs[i], pick(roll, someValues()))
		}
		s.Buf = append(s.Buf, nil)
		for range []int{0, 0, 0, 1, 2, 3, 63, 64}[roll(8)] * min(1, len(p.Locs)) {
			s.Buf[i] = append(s.Buf[i], api.Write{Loc: roll(len(p.Locs)), Value: pick(roll, someValues())})
		}
	}
	for range p.Locs {
		s.Mem = append(s.Mem, pick(roll, someValues()))
	}
	return s
}

// someProper is an unruly state that is proper; where it can be, one thread in two holds the lock.
func someProper(roll func(int) int, w words) api.State {
	s := someState(roll, w.p)
	clear(s.Phase)
	i := roll(len(s.PC))
	s.Lock = -1
	if isLocked(w.next(s, i)) && roll(2) == 0 {
		s.Lock, s.Phase[i] = i, 1+roll(2)
	}
	return s
}

// wrongProgs is programs that are not right, by what is wrong.
func wrongProgs(t *testing.T) map[string]api.Prog {
	m := map[string]api.Prog{"nothing": {}}
	add := func(what string, turn func(*api.Prog)) {
		p := evenProg(all(t))
		turn(&p)
		if prog.Valid(p) == api.OK {
			t.Fatalf("%s is right", what)
		}
		m[what] = p
	}
	add("no threads", func(p *api.Prog) { p.Threads = nil })
	add("five threads", func(p *api.Prog) { *p = bare(5) })
	add("a thread less", func(p *api.Prog) { p.Threads = p.Threads[1:] })
	add("a thread more", func(p *api.Prog) { p.Threads = append(p.Threads, nil) })
	add("a value more", func(p *api.Prog) { p.RegInit[1] = append(p.RegInit[1], 1) })
	add("nine registers", func(p *api.Prog) {
		p.Regs[0], p.RegInit[0] = strings.Fields("EAX EBP EBX ECX EDI EDX ESI ESP R8"), make([]int64, 9)
	})
	add("a location's value less", func(p *api.Prog) { p.LocInit = p.LocInit[1:] })
	add("seventeen locations", func(p *api.Prog) {
		p.Locs, p.LocInit = nil, make([]int64, 17)
		for i := range 17 {
			p.Locs = append(p.Locs, fmt.Sprintf("l%02d", i))
		}
	})
	for _, n := range []int{-1, 3, math.MinInt, math.MaxInt} {
		add(fmt.Sprint("a register ", n), func(p *api.Prog) { p.Threads[0][0].Reg = n })
		add(fmt.Sprint("a location ", n), func(p *api.Prog) { p.Threads[1][0].Loc = n })
	}
	for _, n := range []int{-1, 0, 10, math.MinInt, math.MaxInt} {
		add(fmt.Sprint("an instruction ", n), func(p *api.Prog) { p.Threads[2][3].Kind = n })
	}
	add("CMPXCHG of another register", func(p *api.Prog) { p.Threads[2][2].Reg = 1 })
	add("many fences", func(p *api.Prog) {
		for range 60 {
			p.Threads[0] = append(p.Threads[0], api.Op{Kind: api.OFence})
		}
	})
	return m
}

type twist struct {
	what string
	turn func(*api.State)
}

// twists is what makes of a state of the program all one that is none of it.
func twists() []twist {
	var l []twist
	add := func(what string, turn func(*api.State)) { l = append(l, twist{what, turn}) }
	for _, n := range []int{math.MinInt, -2, 3, 5, math.MaxInt} {
		add(fmt.Sprint("Lock ", n), func(s *api.State) { s.Lock = n })
	}
	for i := range 3 {
		for _, n := range []int{math.MinInt, -1, 5, math.MaxInt} {
			add(fmt.Sprint("PC ", n, " of ", i), func(s *api.State) { s.PC[i] = n })
			add(fmt.Sprint("Phase ", n, " of ", i), func(s *api.State) { s.Phase[i] = n })
			add(fmt.Sprint("Loc ", n, " of ", i), func(s *api.State) { s.Buf[i] = []api.Write{{}, {Loc: n}} })
		}
		add(fmt.Sprint("Phase 3 of ", i), func(s *api.State) { s.Phase[i] = 3 })
		add(fmt.Sprint("Loc 3 of ", i), func(s *api.State) { s.Buf[i] = []api.Write{{Loc: 3}} })
		add(fmt.Sprint("a register more of ", i), func(s *api.State) { s.Regs[i] = append(s.Regs[i], 0) })
		add(fmt.Sprint("a register less of ", i), func(s *api.State) { s.Regs[i] = s.Regs[i][1:] })
		add(fmt.Sprint("65 writes of ", i), func(s *api.State) { s.Buf[i] = make([]api.Write, 65) })
	}
	add("a PC more", func(s *api.State) { s.PC = append(s.PC, 0) })
	add("a PC less", func(s *api.State) { s.PC = s.PC[1:] })
	add("a Phase more", func(s *api.State) { s.Phase = append(s.Phase, 0) })
	add("a Phase less", func(s *api.State) { s.Phase = s.Phase[1:] })
	add("a thread's registers more", func(s *api.State) { s.Regs = append(s.Regs, nil) })
	add("a thread's registers less", func(s *api.State) { s.Regs = s.Regs[:2] })
	add("a value of memory more", func(s *api.State) { s.Mem = append(s.Mem, 0) })
	add("a value of memory less", func(s *api.State) { s.Mem = s.Mem[1:] })
	add("a buffer more", func(s *api.State) { s.Buf = append(s.Buf, nil) })
	add("a buffer less", func(s *api.State) { s.Buf = s.Buf[1:] })
	add("nothing", func(s *api.State) { *s = api.State{} })
	return l
}

// evenLists is lists, none of them nil, in memory of their own.
func evenLists[T any](l [][]T) [][]T {
	even := [][]T{}
	for _, m := range l {
		even = append(even, append([]T{}, m...))
	}
	return even
}

func evenState(s api.State) api.State {
	return api.State{PC: append([]int{}, s.PC...), Phase: append([]int{}, s.Phase...), Regs: evenLists(s.Regs), Mem: append([]int64{}, s.Mem...), Buf: evenLists(s.Buf), Lock: s.Lock}
}

func evenProg(p api.Prog) api.Prog {
	return api.Prog{Threads: evenLists(p.Threads), Regs: evenLists(p.Regs), Locs: append([]string{}, p.Locs...), RegInit: evenLists(p.RegInit), LocInit: append([]int64{}, p.LocInit...)}
}

func sameLists[T comparable](a, b [][]T) bool { return slices.EqualFunc(a, b, slices.Equal[[]T]) }

func sameState(a, b api.State) bool {
	return a.Lock == b.Lock && slices.Equal(a.PC, b.PC) && slices.Equal(a.Phase, b.Phase) && slices.Equal(a.Mem, b.Mem) && sameLists(a.Regs, b.Regs) && sameLists(a.Buf, b.Buf)
}

func isZero(s api.State) bool { return sameState(s, api.State{}) }

// finalOf is the final state with a state's registers and memory.
func finalOf(s api.State) api.Final {
	f := api.Final{}
	for _, l := range append(slices.Clone(s.Regs), s.Mem) {
		for _, v := range l {
			f.V[f.N] = v
			f.N++
		}
	}
	return f
}

// whole is what v and all lists in it hold, their spare room too.
func whole(v reflect.Value) string {
	switch v.Kind() {
	case reflect.Slice:
		s := fmt.Sprint("[", v.Len(), ":")
		for i, all := 0, v.Slice(0, v.Cap()); i < all.Len(); i++ {
			s += whole(all.Index(i)) + " "
		}
		return s + "]"
	case reflect.Struct:
		s := "{"
		for i := range v.NumField() {
			s += whole(v.Field(i)) + " "
		}
		return s + "}"
	}
	return fmt.Sprintf("%#v", v)
}

// spoil overwrites all that v holds, in the spare room too.
func spoil(v reflect.Value) {
	switch v.Kind() {
	case reflect.Slice:
		for i, all := 0, v.Slice(0, v.Cap()); i < all.Len(); i++ {
			spoil(all.Index(i))
		}
	case reflect.Struct:
		for i := range v.NumField() {
			spoil(v.Field(i))
		}
	case reflect.Int, reflect.Int64:
		v.SetInt(-77)
	case reflect.String:
		v.SetString("spoilt")
	}
}

// spare is a list with room behind its end that holds something.
func spare[T any](l []T, rest T) []T {
	full := append(append([]T{}, l...), rest, rest)
	return full[:len(l)]
}

func spareProg(p api.Prog) api.Prog {
	p = evenProg(p)
	for i := range p.Threads {
		p.Threads[i] = spare(p.Threads[i], api.Op{Kind: 77})
		p.Regs[i] = spare(p.Regs[i], "spare")
		p.RegInit[i] = spare(p.RegInit[i], 77)
	}
	p.Threads = spare(p.Threads, []api.Op{{Kind: 77}})
	p.Regs = spare(p.Regs, []string{"spare"})
	p.RegInit = spare(p.RegInit, []int64{77})
	p.Locs = spare(p.Locs, "spare")
	p.LocInit = spare(p.LocInit, 77)
	return p
}

func spareState(s api.State) api.State {
	s = evenState(s)
	for i := range s.PC {
		s.Regs[i] = spare(s.Regs[i], 77)
		s.Buf[i] = spare(s.Buf[i], api.Write{Loc: 77})
	}
	s.PC, s.Phase, s.Mem = spare(s.PC, 77), spare(s.Phase, 77), spare(s.Mem, 77)
	s.Regs, s.Buf = spare(s.Regs, []int64{77}), spare(s.Buf, []api.Write{{Loc: 77}})
	return s
}

// apart asks whether something that is put behind each list of a state is seen in no other.
func apart(t *testing.T, s api.State) {
	t.Helper()
	before := evenState(s)
	s.PC = append(s.PC, -1)[:len(s.PC)]
	s.Phase = append(s.Phase, -2)[:len(s.Phase)]
	s.Mem = append(s.Mem, -3)[:len(s.Mem)]
	for i := range s.PC {
		s.Regs[i] = append(s.Regs[i], -4)[:len(s.Regs[i])]
		s.Buf[i] = append(s.Buf[i], api.Write{Loc: -5})[:len(s.Buf[i])]
	}
	if !sameState(s, before) {
		t.Errorf("lists of one answer share memory: %v; want %v", s, before)
	}
}

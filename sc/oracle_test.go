package sc_test

import (
	"encoding/binary"
	"fmt"
	"math"
	"reflect"
	"slices"
	"strconv"
	"strings"
	"testing"

	"weir/api"
	"weir/litmus"
	"weir/print"
	"weir/prog"
)

// dice is a row of numbers that look unruly and are the same at every run.
func dice(seed uint64) func(n int) int {
	return func(n int) int {
		seed += 0x9e3779b97f4a7c15
		z := (seed ^ seed>>30) * 0xbf58476d1ce4e5b9
		z = (z ^ z>>27) * 0x94d049bb133111eb
		return int((z ^ z>>31) % uint64(n))
	}
}

func pick[T any](roll func(int) int, l []T) T { return l[roll(len(l))] }

// of is the program of a file's settings and rows.
func of(t *testing.T, settings, rows string) api.Prog {
	t.Helper()
	threads := strings.Count(strings.SplitN(rows, ";", 2)[0], "|") + 1
	head := "P0"
	for i := 1; i < threads; i++ {
		head += fmt.Sprint("|P", i)
	}
	x, err := litmus.Parse("X86 t {" + settings + "} " + head + ";" + rows + "; exists true")
	if err != nil {
		t.Fatalf("%s: %v", rows, err)
	}
	p, e := prog.Of(x)
	if e != api.OK {
		t.Fatalf("%s: %d", rows, e)
	}
	return p
}

// sb is the program of the chapter's examples.
func sb(t *testing.T) api.Prog {
	return of(t, "x=0; y=0", "MOV [x],$1|MOV [y],$1; MOV EAX,[y]|MOV EAX,[x]")
}

// all is a program with every kind of instruction.
func all(t *testing.T) api.Prog {
	return of(t, "x=3; 0:EAX=1; 0:EBX=2; 1:EAX=3; 1:R8=-1; z=7", `
		MOV EBX,$-5      |LOCK XADD [x],R8     |MOV EDI,[x]          ;
		MOV [y],EBX      |LOCK CMPXCHG [x],R8  |XCHG [y],EDI         ;
		MFENCE           |MOV R8,EAX           |LOCK CMPXCHG [z],EDI ;
		MOV EAX,[z]      |MOV [z],$4           |LOCK XADD [z],EAX    `)
}

// fullest is a program at all bounds: four threads of eight registers, sixteen locations, 64 events.
func fullest() api.Prog {
	names := strings.Fields("EAX EBP EBX ECX EDI EDX ESI ESP R10 R11 R12 R13 R14 R15 R8 R9")
	p := api.Prog{}
	for i := range 16 {
		p.Locs = append(p.Locs, fmt.Sprintf("l%02d", i))
		p.LocInit = append(p.LocInit, int64(100+i))
	}
	for i := range 4 {
		p.Regs = append(p.Regs, slices.Clone(names[i:i+8]))
		p.RegInit = append(p.RegInit, []int64{1, 2, 3, math.MinInt64, math.MaxInt64, 6, -7, int64(i)})
		var l []api.Op
		for k := range 6 {
			l = append(l, api.Op{Kind: api.OXadd, Reg: k, Loc: 15 - i}, api.Op{Kind: api.OMovReg, Reg: 7, Src: k})
		}
		p.Threads = append(p.Threads, l)
	}
	return p
}

// bare is a program of so many threads without instructions, registers and locations.
func bare(threads int) api.Prog {
	return api.Prog{Threads: make([][]api.Op, threads), Regs: make([][]string, threads), RegInit: make([][]int64, threads)}
}

func someValues() []int64 {
	return []int64{0, 0, 0, 1, 1, 2, -1, 63, 64, -64, -65, 255, math.MaxInt64, math.MinInt64}
}

// someProg is an unruly program of few short threads.
func someProg(roll func(int) int, longest int) api.Prog {
	p := api.Prog{Locs: []string{"x", "y", "z"}[:roll(4)]}
	for range p.Locs {
		p.LocInit = append(p.LocInit, pick(roll, someValues()))
	}
	for range 1 + roll(4) {
		regs := [][]string{nil, {"EAX"}, {"EBX", "R8"}, {"EAX", "EBX"}, {"EAX", "EBX", "R15"}}[roll(5)]
		var init []int64
		for range regs {
			init = append(init, pick(roll, someValues()))
		}
		var l []api.Op
		for range roll(longest + 1) {
			l = append(l, someOp(roll, regs, len(p.Locs)))
		}
		p.Threads, p.Regs, p.RegInit = append(p.Threads, l), append(p.Regs, regs), append(p.RegInit, init)
	}
	return p
}

// someOp is an unruly instruction over some registers and locations.
func someOp(roll func(int) int, regs []string, locs int) api.Op {
	for range 20 {
		op := api.Op{Kind: 1 + roll(9), Reg: roll(3), Src: roll(3), Loc: roll(3)}
		switch op.Kind {
		case api.OMovImm:
			op.Src, op.Loc, op.Imm = 0, 0, pick(roll, someValues())
		case api.OMovReg:
			op.Loc = 0
		case api.OStoreImm:
			op.Reg, op.Src, op.Imm = 0, 0, pick(roll, someValues())
		case api.OStoreReg:
			op.Reg = 0
		case api.OLoad, api.OXchg, api.OXadd:
			op.Src = 0
		case api.OCmpxchg:
			op.Reg = 0
		case api.OFence:
			op = api.Op{Kind: api.OFence}
		}
		one := api.Prog{Threads: [][]api.Op{{op}}, Regs: [][]string{regs}, Locs: []string{"x", "y", "z"}[:locs], RegInit: [][]int64{make([]int64, len(regs))}, LocInit: make([]int64, locs)}
		if prog.Valid(one) == api.OK {
			return op
		}
	}
	return api.Op{Kind: api.OFence}
}

// someState is an unruly state of a program.
func someState(roll func(int) int, p api.Prog) api.State {
	s := api.State{Lock: roll(len(p.Threads)+1) - 1}
	for i, l := range p.Threads {
		s.PC = append(s.PC, roll(len(l)+1))
		s.Phase = append(s.Phase, roll(3))
		s.Regs = append(s.Regs, nil)
		for range p.Regs[i] {
			s.Regs[i] = append(s.Regs[i], pick(roll, someValues()))
		}
		s.Buf = append(s.Buf, nil)
		for range []int{0, 0, 1, 2, 3, 64}[roll(6)] * min(1, len(p.Locs)) {
			s.Buf[i] = append(s.Buf[i], api.Write{Loc: roll(len(p.Locs)), Value: pick(roll, someValues())})
		}
	}
	for range p.Locs {
		s.Mem = append(s.Mem, pick(roll, someValues()))
	}
	return s
}

// flattened is an unruly state, but for what the machine of sequential consistency has not.
func flattened(s api.State) api.State {
	s = evenState(s)
	for i := range s.PC {
		s.Phase[i], s.Buf[i] = 0, nil
	}
	s.Lock = -1
	return s
}

// isState is whether a state is one of a right program, as the chapter's words have it.
func isState(p api.Prog, s api.State) bool {
	for _, n := range []int{len(s.PC), len(s.Phase), len(s.Regs), len(s.Buf)} {
		if n != len(p.Threads) {
			return false
		}
	}
	var numbers [][3]int // each with the least and the greatest that it may be
	for i := range p.Threads {
		numbers = append(numbers, [3]int{s.PC[i], 0, len(p.Threads[i])}, [3]int{s.Phase[i], 0, 2})
		numbers = append(numbers, [3]int{len(s.Regs[i]), len(p.Regs[i]), len(p.Regs[i])}, [3]int{len(s.Buf[i]), 0, 64})
		for _, w := range s.Buf[i] {
			numbers = append(numbers, [3]int{w.Loc, 0, len(p.Locs) - 1})
		}
	}
	numbers = append(numbers, [3]int{len(s.Mem), len(p.Locs), len(p.Locs)}, [3]int{s.Lock, -1, len(p.Threads) - 1})
	for _, n := range numbers {
		if n[0] < n[1] || n[0] > n[2] {
			return false
		}
	}
	return true
}

// saysText is a state's text: chapter 4's code of a value is what encoding/binary calls a varint.
func saysText(s api.State) string {
	var b []byte
	for i := range s.PC {
		b = binary.AppendVarint(b, int64(s.PC[i]))
		b = binary.AppendVarint(b, int64(s.Phase[i]))
		for _, v := range s.Regs[i] {
			b = binary.AppendVarint(b, v)
		}
	}
	for _, v := range s.Mem {
		b = binary.AppendVarint(b, v)
	}
	for i := range s.PC {
		b = binary.AppendVarint(b, int64(len(s.Buf[i])))
		for _, w := range s.Buf[i] {
			b = binary.AppendVarint(binary.AppendVarint(b, int64(w.Loc)), w.Value)
		}
	}
	return string(binary.AppendVarint(b, int64(s.Lock)))
}

// saysRead is the one state whose text a text may be, if it is.
func saysRead(p api.Prog, text string) (s api.State, ok bool) {
	b := []byte(text)
	next := func() int64 {
		v, n := binary.Varint(b)
		if n <= 0 {
			panic("no value")
		}
		b = b[n:]
		return v
	}
	defer func() {
		if recover() != nil || !isState(p, s) || saysText(s) != text {
			s, ok = api.State{}, false
		}
	}()
	for i := range p.Threads {
		s.PC = append(s.PC, int(next()))
		s.Phase = append(s.Phase, int(next()))
		s.Regs = append(s.Regs, nil)
		for range p.Regs[i] {
			s.Regs[i] = append(s.Regs[i], next())
		}
	}
	for range p.Locs {
		s.Mem = append(s.Mem, next())
	}
	for i := range p.Threads {
		s.Buf = append(s.Buf, nil)
		for n := next(); n > 0; n-- {
			s.Buf[i] = append(s.Buf[i], api.Write{Loc: int(next()), Value: next()})
		}
	}
	s.Lock = int(next())
	return s, true
}

// evenLists is lists, none of them nil, in memory of their own.
func evenLists[T any](l [][]T) [][]T {
	even := [][]T{}
	for _, m := range l {
		even = append(even, append([]T{}, m...))
	}
	return even
}

func evenState(s api.State) api.State {
	return api.State{PC: append([]int{}, s.PC...), Phase: append([]int{}, s.Phase...), Regs: evenLists(s.Regs), Mem: append([]int64{}, s.Mem...), Buf: evenLists(s.Buf), Lock: s.Lock}
}

func evenProg(p api.Prog) api.Prog {
	return api.Prog{Threads: evenLists(p.Threads), Regs: evenLists(p.Regs), Locs: append([]string{}, p.Locs...), RegInit: evenLists(p.RegInit), LocInit: append([]int64{}, p.LocInit...)}
}

func sameState(a, b api.State) bool { return reflect.DeepEqual(evenState(a), evenState(b)) }

// saysStart is a program's start.
func saysStart(p api.Prog) api.State {
	n := len(p.Threads)
	return api.State{PC: make([]int, n), Phase: make([]int, n), Regs: p.RegInit, Mem: p.LocInit, Buf: make([][]api.Write, n), Lock: -1}
}

// saysFinal is the final state with a state's registers and memory.
func saysFinal(s api.State) api.Final {
	f := api.Final{}
	for _, l := range append(slices.Clone(s.Regs), s.Mem) {
		for _, v := range l {
			f.V[f.N] = v
			f.N++
		}
	}
	return f
}

// cells is what a state's registers and locations have, by their texts.
func cells(p api.Prog, s api.State) map[string]int64 {
	m, f := map[string]int64{}, saysFinal(s)
	for i, r := range prog.Names(p) {
		text, _ := print.Ref(r)
		m[text] = f.V[i]
	}
	return m
}

// withCells is a state whose registers and locations have what their texts say.
func withCells(p api.Prog, s api.State, m map[string]int64) api.State {
	s = evenState(s)
	for i, l := range p.Regs {
		for k, name := range l {
			s.Regs[i][k] = m[fmt.Sprint(i, ":", name)]
		}
	}
	for k, name := range p.Locs {
		s.Mem[k] = m[name]
	}
	return s
}

// saysTurn is the state behind the next instruction of a thread, which is done as its text says.
func saysTurn(p api.Prog, s api.State, thread int) api.State {
	x, _ := prog.Back(p)
	text, _ := print.Instr(x.Threads[thread][s.PC[thread]])
	m := cells(p, s)
	obey(m, fmt.Sprint(thread, ":"), text)
	s = withCells(p, s, m)
	s.PC[thread]++
	return s
}

// obey does what an instruction's text says.
func obey(m map[string]int64, thread, text string) {
	name := func(s string) string {
		if in, ok := strings.CutPrefix(s, "["); ok {
			return strings.TrimSuffix(in, "]")
		}
		return thread + s
	}
	get := func(s string) int64 {
		if digits, ok := strings.CutPrefix(s, "$"); ok {
			v, err := strconv.ParseInt(digits, 10, 64)
			if err != nil {
				panic(err)
			}
			return v
		}
		return m[name(s)]
	}
	word, rest, _ := strings.Cut(strings.TrimPrefix(text, "LOCK "), " ")
	a, b, _ := strings.Cut(rest, ",")
	switch word {
	case "MFENCE":
	case "MOV":
		m[name(a)] = get(b)
	case "XCHG":
		was, other := get(a), get(b)
		m[name(a)], m[name(b)] = other, was
	case "XADD":
		was, sum := get(a), get(a)+get(b)
		m[name(a)], m[name(b)] = sum, was
	case "CMPXCHG":
		if was := get(a); was == get("EAX") {
			m[name(a)] = get(b)
		} else {
			m[name("EAX")] = was
		}
	default:
		panic(text)
	}
}

// wrongProgs is programs that are not right, each with Valid's error.
func wrongProgs(t *testing.T) map[string]api.Prog {
	m := map[string]api.Prog{"nothing": {}}
	add := func(what string, turn func(*api.Prog)) {
		p := evenProg(all(t))
		turn(&p)
		if prog.Valid(p) == api.OK {
			t.Fatalf("%s is right", what)
		}
		m[what] = p
	}
	add("no threads", func(p *api.Prog) { p.Threads = nil })
	add("five threads", func(p *api.Prog) { *p = bare(5) })
	add("a thread less", func(p *api.Prog) { p.Threads = p.Threads[1:] })
	add("a thread more", func(p *api.Prog) { p.Threads = append(p.Threads, nil) })
	add("no values of a thread", func(p *api.Prog) { p.RegInit = p.RegInit[:2] })
	add("a value more", func(p *api.Prog) { p.RegInit[1] = append(p.RegInit[1], 1) })
	add("no register", func(p *api.Prog) { p.Regs[2][0] = "RAX" })
	add("nine registers", func(p *api.Prog) {
		p.Regs[0], p.RegInit[0] = strings.Fields("EAX EBP EBX ECX EDI EDX ESI ESP R8"), make([]int64, 9)
	})
	add("a location's value less", func(p *api.Prog) { p.LocInit = p.LocInit[1:] })
	add("no name", func(p *api.Prog) { p.Locs[0] = "" })
	add("seventeen locations", func(p *api.Prog) {
		p.Locs, p.LocInit = nil, make([]int64, 17)
		for i := range 17 {
			p.Locs = append(p.Locs, fmt.Sprintf("l%02d", i))
		}
	})
	for _, n := range []int{-1, 3, math.MinInt, math.MaxInt} {
		add(fmt.Sprint("a register ", n), func(p *api.Prog) { p.Threads[0][0].Reg = n })
		add(fmt.Sprint("a location ", n), func(p *api.Prog) { p.Threads[1][0].Loc = n })
	}
	add("no instruction", func(p *api.Prog) { p.Threads[2][3].Kind = 10 })
	add("CMPXCHG of another register", func(p *api.Prog) { p.Threads[2][2].Reg = 1 })
	add("many fences", func(p *api.Prog) {
		for range 60 {
			p.Threads[0] = append(p.Threads[0], api.Op{Kind: api.OFence})
		}
	})
	return m
}

// lists hands on all lists of at most n members of some.
func lists[T any](members []T, n int, do func([]T)) {
	do(nil)
	row := [][]T{nil}
	for range n {
		var next [][]T
		for _, l := range row {
			for _, m := range members {
				longer := append(slices.Clone(l), m)
				do(longer)
				next = append(next, longer)
			}
		}
		row = next
	}
}

// whole is what v and all lists in it hold, their spare room too.
func whole(v reflect.Value) string {
	switch v.Kind() {
	case reflect.Slice:
		s := fmt.Sprint("[", v.Len(), ":")
		for i, all := 0, v.Slice(0, v.Cap()); i < all.Len(); i++ {
			s += whole(all.Index(i)) + " "
		}
		return s + "]"
	case reflect.Struct:
		s := "{"
		for i := range v.NumField() {
			s += whole(v.Field(i)) + " "
		}
		return s + "}"
	}
	return fmt.Sprintf("%#v", v)
}

// spoil overwrites all that v holds, in the spare room too.
func spoil(v reflect.Value) {
	switch v.Kind() {
	case reflect.Slice:
		for i, all := 0, v.Slice(0, v.Cap()); i < all.Len(); i++ {
			spoil(all.Index(i))
		}
	case reflect.Struct:
		for i := range v.NumField() {
			spoil(v.Field(i))
		}
	case reflect.Int, reflect.Int64:
		v.SetInt(-77)
	case reflect.String:
		v.SetString("spoilt")
	}
}

func spoilState(s *api.State) { spoil(reflect.ValueOf(s).Elem()) }

func spoilProg(p *api.Prog) { spoil(reflect.ValueOf(p).Elem()) }

// spare is a list with room behind its end that holds something.
func spare[T any](l []T, rest T) []T {
	full := append(append([]T{}, l...), rest, rest)
	return full[:len(l)]
}

func spareProg(p api.Prog) api.Prog {
	p = evenProg(p)
	for i := range p.Threads {
		p.Threads[i] = spare(p.Threads[i], api.Op{Kind: 77})
		p.Regs[i] = spare(p.Regs[i], "spare")
		p.RegInit[i] = spare(p.RegInit[i], 77)
	}
	p.Threads = spare(p.Threads, []api.Op{{Kind: 77}})
	p.Regs = spare(p.Regs, []string{"spare"})
	p.RegInit = spare(p.RegInit, []int64{77})
	p.Locs = spare(p.Locs, "spare")
	p.LocInit = spare(p.LocInit, 77)
	return p
}

func spareState(s api.State) api.State {
	s = evenState(s)
	for i := range s.PC {
		s.Regs[i] = spare(s.Regs[i], 77)
		s.Buf[i] = spare(s.Buf[i], api.Write{Loc: 77})
	}
	s.PC, s.Phase, s.Mem = spare(s.PC, 77), spare(s.Phase, 77), spare(s.Mem, 77)
	s.Regs, s.Buf = spare(s.Regs, []int64{77}), spare(s.Buf, []api.Write{{Loc: 77}})
	return s
}

// apartState tells whether something that is put behind each list of a state is seen in no other.
func apartState(t *testing.T, s api.State) {
	t.Helper()
	before := evenState(s)
	s.PC = append(s.PC, -1)[:len(s.PC)]
	s.Phase = append(s.Phase, -2)[:len(s.Phase)]
	s.Mem = append(s.Mem, -3)[:len(s.Mem)]
	for i := range s.PC {
		s.Regs[i] = append(s.Regs[i], -4)[:len(s.Regs[i])]
		s.Buf[i] = append(s.Buf[i], api.Write{Loc: -5})[:len(s.Buf[i])]
	}
	if !sameState(s, before) {
		t.Errorf("lists of one answer share memory: %v; want %v", s, before)
	}
}

package witness_test

import (
	"cmp"
	"fmt"
	"math"
	"reflect"
	"slices"
	"strings"
	"testing"

	"weir/api"
	"weir/cand"
	"weir/event"
	"weir/litmus"
	"weir/prog"
	"weir/reduce"
)

// dice is a row of numbers that look unruly and are the same at every run.
func dice(seed uint64) func(n int) int {
	return func(n int) int {
		seed += 0x9e3779b97f4a7c15
		z := (seed ^ seed>>30) * 0xbf58476d1ce4e5b9
		z = (z ^ z>>27) * 0x94d049bb133111eb
		return int((z ^ z>>31) % uint64(n))
	}
}

func pick[T any](roll func(int) int, l []T) T { return l[roll(len(l))] }

// of is the program of settings and of threads, whose instructions stand with a ; between them.
func of(t *testing.T, settings string, threads ...string) api.Prog {
	t.Helper()
	x := api.Test{Name: "t", Quant: api.Exists, Cond: api.Cond{{Op: api.CTrue}}}
	for _, thread := range threads {
		var l []api.Instr
		for _, text := range strings.FieldsFunc(thread, func(r rune) bool { return r == ';' }) {
			in, err := litmus.Instruction(text)
			if err != nil {
				t.Fatalf("%s: %v", text, err)
			}
			l = append(l, in)
		}
		x.Threads = append(x.Threads, l)
	}
	set, err := litmus.Parse("X86 t {" + settings + "} P0; exists true")
	if err != nil {
		t.Fatalf("%s: %v", settings, err)
	}
	x.Inits = set.Inits
	p, e := prog.Of(x)
	if e != api.OK {
		t.Fatalf("%s: %d", threads, e)
	}
	return p
}

func sb(t *testing.T) api.Prog {
	return of(t, "x=0; y=0", "MOV [x],$1; MOV EAX,[y]", "MOV [y],$1; MOV EAX,[x]")
}

func mp(t *testing.T) api.Prog {
	return of(t, "x=0; y=0", "MOV [x],$1; MOV [y],$1", "MOV EAX,[y]; MOV EBX,[x]")
}

// final is the final state of some values.
func final(l ...int64) api.Final {
	f := api.Final{N: len(l)}
	copy(f.V[:], l)
	return f
}

// kinds is the three models.
func kinds() []int { return []int{api.MSC, api.MTSO, api.MPSO} }

// noKinds is numbers of no model.
func noKinds() []int { return []int{0, -1, 4, 64, math.MinInt, math.MaxInt} }

// all is a program with every kind of instruction; no instruction names w.
func all(t *testing.T) api.Prog {
	return of(t, "x=3; 0:EAX=1; 0:EBX=2; 1:EAX=3; 1:R8=-1; w=7",
		"MOV EBX,$-5; MOV [y],EBX; MFENCE; MOV EAX,[z]",
		"LOCK XADD [x],R8; LOCK CMPXCHG [x],R8; MOV R8,EAX; MOV [z],$4",
		"MOV EDI,[x]; XCHG [y],EDI; LOCK CMPXCHG [z],EDI; LOCK CMPXCHG [y],EDI")
}

// bare is a program of so many threads without instructions, registers and locations.
func bare(threads int) api.Prog {
	return api.Prog{Threads: make([][]api.Op, threads), Regs: make([][]string, threads), RegInit: make([][]int64, threads)}
}

// fullest is a program at all bounds: four threads of eight registers, sixteen locations, 64 events.
func fullest() api.Prog {
	names := strings.Fields("EAX EBP EBX ECX EDI EDX ESI ESP R10 R11 R12 R13 R14 R15 R8 R9")
	p := api.Prog{}
	for i := range 16 {
		p.Locs, p.LocInit = append(p.Locs, fmt.Sprintf("l%02d", i)), append(p.LocInit, int64(100+i))
	}
	for i := range 4 {
		p.Regs = append(p.Regs, slices.Clone(names[i:i+8]))
		p.RegInit = append(p.RegInit, []int64{1, 2, 3, math.MinInt64, math.MaxInt64, 6, -7, int64(i)})
		var l []api.Op
		for k := range 3 {
			l = append(l, api.Op{Kind: api.OStoreReg, Src: k, Loc: 15 - 5*i}, api.Op{Kind: api.OXadd, Reg: 3 + k, Loc: 7*k + i%2}, api.Op{Kind: api.OStoreImm, Imm: 9, Loc: 5*k + i})
		}
		p.Threads = append(p.Threads, l)
	}
	return p
}

// someThread is an unruly thread, of every kind of instruction.
func someThread(roll func(int) int, length int) string {
	var l []string
	for range length {
		loc, reg := pick(roll, []string{"x", "y", "z"}), pick(roll, []string{"EAX", "EBX"})
		l = append(l, pick(roll, []string{
			"MOV [" + loc + "],$" + fmt.Sprint(1+roll(3)), "MOV [" + loc + "]," + reg,
			"MOV " + reg + ",[" + loc + "]", "MOV " + reg + ",$" + fmt.Sprint(roll(3)), "MOV EAX,EBX", "MFENCE",
			"XCHG [" + loc + "]," + reg, "LOCK XADD [" + loc + "]," + reg,
			"LOCK CMPXCHG [" + loc + "]," + reg, "LOCK CMPXCHG [" + loc + "]," + reg,
		}))
	}
	return strings.Join(l, ";")
}

func someSettings() []string {
	return []string{"", "x=1", "y=-1; 0:EAX=1", "0:EBX=2; x=2; y=1", "x=9223372036854775807; 0:EAX=9223372036854775807", "a=5"}
}

// someProg is an unruly program of up to so many instructions, in one to four threads.
func someProg(t *testing.T, roll func(int) int, most int) api.Prog {
	t.Helper()
	threads := make([]string, 1+roll(4))
	for range 1 + roll(most) {
		i := roll(len(threads))
		threads[i] += someThread(roll, 1) + ";"
	}
	return of(t, pick(roll, someSettings()), threads...)
}

// someShape is two or three threads that each do something to a location and then to the next one, plainly, with a fence or a locked instruction now and then: there the models part.
func someShape(t *testing.T, roll func(int) int) api.Prog {
	t.Helper()
	locs := []string{"x", "y", "z"}[:2+roll(2)]
	access := func(loc, reg string) string {
		return pick(roll, []string{
			"MOV [" + loc + "],$1", "MOV [" + loc + "],$2", "MOV " + reg + ",[" + loc + "]", "MOV " + reg + ",[" + loc + "]",
			"XCHG [" + loc + "]," + reg, "LOCK CMPXCHG [" + loc + "],ECX",
		})
	}
	var l []string
	for i := range locs {
		between := pick(roll, []string{"", "", "", "MFENCE;", "MOV EDX,EAX;", "MOV EDX,[" + locs[i] + "];"})
		l = append(l, access(locs[i], "EAX")+";"+between+access(locs[(i+1)%len(locs)], "EBX"))
	}
	return of(t, pick(roll, []string{"", "0:ECX=1; 1:ECX=2", "x=1; 1:EAX=1; 0:ECX=7"}), l...)
}

// pairs is how many pairs of a choice of reads and an order of writes a program has, by all fails: it has no more candidates.
func pairs(p api.Prog) int {
	n, _ := event.Tries(p)
	sum := 0
	for fails := range api.Set(1) << n {
		k, e := cand.Space(p, fails)
		if e != api.OK || k > 1<<30 {
			return math.MaxInt
		}
		sum += int(k)
	}
	return sum
}

// knownProgs is programs that people know, and some at the edges.
func knownProgs(t *testing.T) []api.Prog {
	t.Helper()
	return []api.Prog{
		sb(t), mp(t), bare(1), bare(4), of(t, "a=1; b=2", ""), of(t, "", "MFENCE"), of(t, "0:EAX=4", "MOV EAX,EBX; MOV EBX,$-1"),
		of(t, "", "MOV [x],$1; MFENCE; MOV EAX,[y]", "MOV [y],$1; MFENCE; MOV EAX,[x]"),
		of(t, "", "MOV [x],$1; MOV [y],$2", "MOV [y],$1; MOV [x],$2"),
		of(t, "", "MOV EAX,[x]; MOV [y],$1", "MOV EAX,[y]; MOV [x],$1"),
		of(t, "", "MOV [x],$1; MOV EAX,[x]; MOV EBX,[y]", "MOV [y],$1; MOV EAX,[y]; MOV EBX,[x]"),
		of(t, "0:EAX=1; 1:EAX=1", "LOCK XADD [x],EAX", "LOCK XADD [x],EAX"),
		of(t, "0:EBX=5", "LOCK CMPXCHG [x],EBX"), of(t, "0:EBX=5; 1:EBX=6", "LOCK CMPXCHG [x],EBX", "LOCK CMPXCHG [x],EBX"),
		of(t, "0:EAX=1; 1:EAX=1", "XCHG [x],EAX; MOV EBX,[y]", "XCHG [y],EAX; MOV EBX,[x]"),
		// Several executions have one final state: the same value is written twice, one of them by a try that may fail.
		of(t, "", "MOV [x],$1; MOV EAX,[x]", "MOV [x],$1; MOV EAX,[x]"),
		of(t, "0:EBX=1; 1:EBX=1; 1:EAX=1", "LOCK CMPXCHG [x],EBX; MOV EAX,$0", "LOCK CMPXCHG [x],EBX; MOV EAX,$0"),
		// Shorter ways are those on which a try fails.
		of(t, "0:EBX=1", "LOCK CMPXCHG [x],EBX; MOV EAX,$0", "MOV [x],$2; MOV [x],$0; MOV [x],$1"),
	}
}

// smallProgs is those, and unruly ones, of which each has at most so many pairs.
func smallProgs(t *testing.T, roll func(int) int, n, most int) []api.Prog {
	t.Helper()
	l := knownProgs(t)
	for len(l) < n {
		p := someProg(t, roll, 8)
		if roll(2) == 0 {
			p = someShape(t, roll)
		}
		if pairs(p) <= most {
			l = append(l, p)
		}
	}
	return l
}

// greatProgs is programs of up to 64 events, which have more runs and candidates than can be gone through.
func greatProgs(t *testing.T) map[string]api.Prog {
	m := map[string]api.Prog{
		"all": all(t), "fullest": fullest(),
		"tries":  of(t, "0:EBX=1; 1:EAX=1; 2:EBX=1", strings.Repeat("LOCK CMPXCHG [x],EBX;", 10), "MFENCE;"+strings.Repeat("LOCK CMPXCHG [x],EBX; MOV EAX,EBX;", 11), strings.Repeat("LOCK CMPXCHG [x],EBX; MOV EAX,$0;", 10)),
		"loads":  of(t, "", strings.Repeat("MOV EAX,[x];", 15)+strings.Repeat("MOV EBX,[x];", 16), strings.Repeat("MOV [x],$1; MOV [x],$2;", 16)),
		"stores": of(t, "", strings.Repeat("MOV [x],$1; MOV [y],$2;", 15), strings.Repeat("MOV [y],$1; MOV [x],$2;", 15), "MOV EAX,[x]; MOV EAX,[y]"),
		"swaps":  of(t, "0:EAX=1; 1:EAX=2", strings.Repeat("XCHG [x],EAX;", 15), strings.Repeat("XCHG [y],EAX; XCHG [x],EAX;", 8)),
		"moves":  of(t, "", strings.Repeat("MOV EAX,EBX; MOV EBX,$5;", 200)+"MOV [x],EAX", strings.Repeat("MOV EAX,$1;", 100)+"MOV EAX,[x];"+strings.Repeat("MOV EBX,EAX;", 100)),
		"mixed":  of(t, "x=1", strings.Repeat("MOV [x],$1; MOV EAX,[y]; MFENCE;", 5), strings.Repeat("MOV [y],EAX; LOCK XADD [x],EAX; MOV EBX,[z];", 4), strings.Repeat("MOV [z],$1; MOV [y],$3; MOV EAX,[x]; MOV EBX,[z];", 3), strings.Repeat("MOV [x],EAX; MOV EAX,[x]; XCHG [z],EAX;", 3)),
	}
	roll := dice(2400)
	for i := range 40 {
		var l []string
		for range 1 + roll(4) {
			l = append(l, someThread(roll, 2+roll(6)))
		}
		m[fmt.Sprint("unruly ", i)] = of(t, pick(roll, someSettings()), l...)
	}
	return m
}

// machine is a model's machine.
func machine(t *testing.T, kind int, p api.Prog) api.Machine {
	t.Helper()
	m, e := reduce.Full(kind, p)
	if e != api.OK {
		t.Fatalf("reduce.Full(%d, %v): %d", kind, p, e)
	}
	return m
}

// someRun is an unruly run: now and then one thread goes on alone for a while, or flushes wait as long as they can.
func someRun(t *testing.T, roll func(int) int, m api.Machine) []api.Pick {
	t.Helper()
	var done []api.Pick
	thread, slow := 0, roll(3)
	for text := m.Start; ; {
		l := m.Picks(text)
		if len(l) == 0 {
			break
		}
		k := pick(roll, l)
		if slow == 1 && k.Kind == api.PFlush {
			k = pick(roll, l)
		}
		if i := slices.IndexFunc(l, func(k api.Pick) bool { return k.Thread == thread }); slow == 2 && i >= 0 {
			k = l[i]
		}
		if roll(6) == 0 {
			thread = roll(4)
		}
		text, _ = m.Step(text, k)
		done = append(done, k)
	}
	return done
}

// wrongProgs is programs that are not right, by what is wrong.
func wrongProgs(t *testing.T) map[string]api.Prog {
	m := map[string]api.Prog{"nothing": {}, "five threads": bare(5)}
	add := func(what string, turn func(*api.Prog)) {
		p := all(t)
		turn(&p)
		m[what] = p
	}
	add("a thread less", func(p *api.Prog) { p.Threads = p.Threads[1:] })
	add("a value more", func(p *api.Prog) { p.RegInit[1] = append(p.RegInit[1], 1) })
	add("nine registers", func(p *api.Prog) {
		p.Regs[0], p.RegInit[0] = strings.Fields("EAX EBP EBX ECX EDI EDX ESI ESP R8"), make([]int64, 9)
	})
	add("a location's value less", func(p *api.Prog) { p.LocInit = p.LocInit[1:] })
	add("seventeen locations", func(p *api.Prog) {
		p.Locs, p.LocInit = nil, make([]int64, 17)
		for i := range 17 {
			p.Locs = append(p.Locs, fmt.Sprintf("l%02d", i))
		}
	})
	for _, n := range []int{-1, 4, math.MinInt, math.MaxInt} {
		add(fmt.Sprint("a location ", n), func(p *api.Prog) { p.Threads[1][0].Loc = n })
	}
	for _, n := range []int{-1, 0, 10, math.MinInt, math.MaxInt} {
		add(fmt.Sprint("an instruction ", n), func(p *api.Prog) { p.Threads[2][3].Kind = n })
	}
	add("CMPXCHG of another register", func(p *api.Prog) { p.Threads[2][2].Reg = 1 })
	add("many fences", func(p *api.Prog) {
		p.Threads[0] = append(p.Threads[0], slices.Repeat([]api.Op{{Kind: api.OFence}}, 60)...)
	})
	return m
}

// strangePicks is picks that no machine takes in any state.
func strangePicks() []api.Pick {
	var l []api.Pick
	for _, n := range []int{math.MinInt, -1, 4, 16, math.MaxInt} {
		l = append(l, api.Pick{Thread: n, Kind: api.PStep}, api.Pick{Thread: n, Kind: api.PFlush},
			api.Pick{Kind: n}, api.Pick{Thread: 1, Kind: n}, api.Pick{Kind: api.PStep, Loc: n}, api.Pick{Kind: api.PFlush, Loc: n})
	}
	return append(l, api.Pick{}, api.Pick{Kind: 3}, api.Pick{Kind: api.PStep, Loc: 1})
}

// twists is what makes of an execution of SB with its weak end something that is no candidate.
func twists() map[string]func(*api.Exec) {
	m := map[string]func(*api.Exec){
		"nothing":              func(x *api.Exec) { *x = api.Exec{} },
		"an event less":        func(x *api.Exec) { x.Events = x.Events[:5] },
		"an event more":        func(x *api.Exec) { x.Events = append(x.Events, api.Event{Kind: api.EFence, Loc: -1}) },
		"an event locked":      func(x *api.Exec) { x.Events[2].Locked = true },
		"many events":          func(x *api.Exec) { x.Events = make([]api.Event, 1000) },
		"a value less":         func(x *api.Exec) { x.Values = x.Values[:5] },
		"a value more":         func(x *api.Exec) { x.Values = append(x.Values, 0) },
		"another value":        func(x *api.Exec) { x.Values[3] = 1 },
		"a place less":         func(x *api.Exec) { x.From = x.From[:5] },
		"a place more":         func(x *api.Exec) { x.From = append(x.From, -1) },
		"a write that reads":   func(x *api.Exec) { x.From[2] = 0 },
		"a read from none":     func(x *api.Exec) { x.From[3] = -1 },
		"a read from x":        func(x *api.Exec) { x.From[3] = 0 },
		"a read of all":        func(x *api.Exec) { x.From[3] = 4 }, // its value is another one then
		"an order less":        func(x *api.Exec) { x.Order = x.Order[:1] },
		"an order more":        func(x *api.Exec) { x.Order = append(x.Order, nil) },
		"an empty order":       func(x *api.Exec) { x.Order[0] = nil },
		"a write less":         func(x *api.Exec) { x.Order[0] = x.Order[0][:1] },
		"a write twice":        func(x *api.Exec) { x.Order[0] = []int{0, 2, 2} },
		"orders changed":       func(x *api.Exec) { x.Order[0], x.Order[1] = x.Order[1], x.Order[0] },
		"the initial one last": func(x *api.Exec) { x.Order[1] = []int{4, 1} },
		"registers less":       func(x *api.Exec) { x.Regs = x.Regs[:1] },
		"registers more":       func(x *api.Exec) { x.Regs = append(x.Regs, nil) },
		"a register less":      func(x *api.Exec) { x.Regs[1] = nil },
		"another register":     func(x *api.Exec) { x.Regs[1][0] = 1 },
	}
	for _, n := range []int{math.MinInt, -2, 6, 64, math.MaxInt} {
		m[fmt.Sprint("From ", n)] = func(x *api.Exec) { x.From[5] = n }
		m[fmt.Sprint("Order ", n)] = func(x *api.Exec) { x.Order[1][1] = n }
	}
	return m
}

// wide is v in memory of its own, with room behind each list's end that holds something.
func wide[T any](v T) T {
	widen(reflect.ValueOf(&v).Elem())
	return v
}

func widen(v reflect.Value) {
	switch v.Kind() {
	case reflect.Slice:
		n := v.Len()
		l := reflect.MakeSlice(v.Type(), n+2, n+2)
		reflect.Copy(l, v)
		for i := range n {
			widen(l.Index(i))
		}
		spoil(l.Index(n))
		spoil(l.Index(n + 1))
		v.Set(l.Slice(0, n))
	case reflect.Struct:
		for i := range v.NumField() {
			widen(v.Field(i))
		}
	}
}

// spoil overwrites all that v holds, in the spare room too.
func spoil(v reflect.Value) {
	switch v.Kind() {
	case reflect.Slice:
		for i, l := 0, v.Slice(0, v.Cap()); i < l.Len(); i++ {
			spoil(l.Index(i))
		}
	case reflect.Struct:
		for i := range v.NumField() {
			spoil(v.Field(i))
		}
	case reflect.Int, reflect.Int64:
		v.SetInt(-77)
	case reflect.Bool:
		v.SetBool(true)
	case reflect.String:
		v.SetString("spoilt")
	}
}

// whole is what v and all lists in it hold, their spare room too.
func whole(v reflect.Value) string {
	switch v.Kind() {
	case reflect.Slice:
		s := fmt.Sprint("[", v.Len(), ":")
		for i, l := 0, v.Slice(0, v.Cap()); i < l.Len(); i++ {
			s += whole(l.Index(i)) + " "
		}
		return s + "]"
	case reflect.Struct:
		s := "{"
		for i := range v.NumField() {
			s += whole(v.Field(i)) + " "
		}
		return s + "}"
	}
	return fmt.Sprintf("%#v", v)
}

// span is where a list lies in memory, with its spare room.
type span struct{ begin, end uintptr }

// spans is where all lists of v lie.
func spans(v reflect.Value) []span {
	var l []span
	switch v.Kind() {
	case reflect.Slice:
		if v.Cap() > 0 {
			l = append(l, span{v.Pointer(), v.Pointer() + uintptr(v.Cap())*v.Type().Elem().Size()})
		}
		for i, all := 0, v.Slice(0, v.Cap()); i < all.Len(); i++ {
			l = append(l, spans(all.Index(i))...)
		}
	case reflect.Struct:
		for i := range v.NumField() {
			l = append(l, spans(v.Field(i))...)
		}
	}
	return l
}

// apart holds all lists of some values against each other: no two may share memory.
func apart(t *testing.T, values ...any) {
	t.Helper()
	var l []span
	for _, v := range values {
		l = append(l, spans(reflect.ValueOf(v))...)
	}
	slices.SortFunc(l, func(a, b span) int { return cmp.Compare(a.begin, b.begin) })
	for i := 1; i < len(l); i++ {
		if l[i].begin < l[i-1].end {
			t.Fatalf("two lists share memory")
		}
	}
}

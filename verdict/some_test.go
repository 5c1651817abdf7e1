package verdict_test

import (
	"cmp"
	"fmt"
	"math"
	"reflect"
	"slices"
	"strings"
	"testing"

	"weir/api"
	"weir/litmus"
	"weir/prog"
)

// dice is a row of numbers that look unruly and are the same at every run.
func dice(seed uint64) func(n int) int {
	return func(n int) int {
		seed += 0x9e3779b97f4a7c15
		z := (seed ^ seed>>30) * 0xbf58476d1ce4e5b9
		z = (z ^ z>>27) * 0x94d049bb133111eb
		return int((z ^ z>>31) % uint64(n))
	}
}

func pick[T any](roll func(int) int, l []T) T { return l[roll(len(l))] }

// some is n elements of a list, in any order.
func some[T any](roll func(int) int, l []T, n int) []T {
	l = slices.Clone(l)
	for i := range l {
		k := i + roll(len(l)-i)
		l[i], l[k] = l[k], l[i]
	}
	return l[:n]
}

func loc(name string) api.Ref { return api.Ref{Thread: -1, Name: name} }

func reg(thread int, name string) api.Ref { return api.Ref{Thread: thread, Name: name} }

func is(r api.Ref, v int64) api.Node { return api.Node{Op: api.CIs, Ref: r, Value: v} }

// of is the final state of some values.
func of(l ...int64) api.Final {
	f := api.Final{N: len(l)}
	copy(f.V[:], l)
	return f
}

// short is the beginning of what some values hold, for telling.
func short(values ...any) string {
	return fmt.Sprintf("%.1000s", fmt.Sprintln(values...))
}

// parsed is the test of a file.
func parsed(t *testing.T, file string) api.Test {
	t.Helper()
	x, err := litmus.Parse(file)
	if err != nil {
		t.Fatalf("%s: %v", file, err)
	}
	if w, e := prog.Check(x); e != api.OK {
		t.Fatalf("%s: %d at %v", file, e, w)
	}
	return x
}

// sb is SB with a question.
func sb(t *testing.T, question string) api.Test {
	return parsed(t, `X86 SB { x=0; y=0; } P0 | P1 ; MOV [x],$1 | MOV [y],$1 ; MOV EAX,[y] | MOV EAX,[x] ; `+question)
}

const bothZero = `(0:EAX=0 /\ 1:EAX=0)`

// four is the final states of SB.
func four() []api.Final {
	return []api.Final{of(0, 0, 1, 1), of(0, 1, 1, 1), of(1, 0, 1, 1), of(1, 1, 1, 1)}
}

// progOf is a test's program.
func progOf(t *testing.T, x api.Test) api.Prog {
	t.Helper()
	p, e := prog.Of(x)
	if e != api.OK {
		t.Fatalf("prog.Of(%s): %d", short(x), e)
	}
	return p
}

func someRegs() []string {
	return strings.Fields("EAX EBP EBX ECX EDI EDX ESI ESP R10 R11 R12 R13 R14 R15 R8 R9")
}

// someLocs is names of locations; some are those of other things, too.
func someLocs() []string {
	return []string{"x", "y", "_", "EAX", "R15", "true", "exists", "MOV", "a.b", "a.", "a+b-c", "P0", "X", "Z9_", "R8", strings.Repeat("n", 64), "a" + strings.Repeat("+b", 31)}
}

func someValues() []int64 {
	return []int64{0, 0, 0, 0, 1, 1, 1, 2, -1, math.MaxInt64, math.MinInt64}
}

// full is a test with as many registers and locations as there may be; its settings alone name them.
func full() api.Test {
	x := api.Test{Name: "full", Threads: make([][]api.Instr, 4), Quant: api.Forall, Cond: api.Cond{{Op: api.CTrue}}}
	for k := range 4 {
		for i, s := range someRegs()[2*k : 2*k+8] {
			x.Inits = append(x.Inits, api.Init{Ref: reg(k, s), Value: int64(10*k + i)})
		}
	}
	for i, s := range someLocs()[:16] {
		x.Inits = append(x.Inits, api.Init{Ref: loc(s), Value: int64(-i)})
	}
	return x
}

// someTest is a test of which nothing is wrong: few names or many, some of them only set, and a question about them.
func someTest(roll func(int) int) api.Test {
	x := api.Test{Name: pick(roll, someLocs()), Doc: pick(roll, []string{"", "a doc", "\x00\xff"}), Quant: 1 + roll(3)}
	locs := some(roll, someLocs(), roll(pick(roll, []int{2, 4, 17})))
	refs := []api.Ref{}
	for _, s := range locs {
		refs = append(refs, loc(s))
	}
	for k := range 1 + roll(4) {
		regs := some(roll, someRegs(), roll(pick(roll, []int{2, 4, 9})))
		x.Threads = append(x.Threads, someThread(roll, regs, locs))
		for _, s := range regs {
			refs = append(refs, reg(k, s))
		}
	}
	for _, r := range some(roll, refs, len(refs)) { // each is named by a setting; instructions name some once more
		x.Inits = append(x.Inits, api.Init{Ref: r, Value: pick(roll, someValues())})
	}
	x.Watch = some(roll, refs, roll(min(len(refs), pick(roll, []int{0, 2, 48}))+1))
	x.Cond = someCond(roll, refs, 1+roll(pick(roll, []int{1, 3, 8})))
	return x
}

// someThread is a few instructions over names.
func someThread(roll func(int) int, regs, locs []string) []api.Instr {
	var l []api.Instr
	if len(regs) == 0 || len(locs) == 0 {
		return l
	}
	for range roll(4) {
		r, m := pick(roll, regs), pick(roll, locs)
		l = append(l, pick(roll, []api.Instr{
			{Op: api.OLoad, Reg: r, Loc: m}, {Op: api.OStoreReg, Src: r, Loc: m}, {Op: api.OStoreImm, Loc: m, Imm: 1},
			{Op: api.OMovImm, Reg: r, Imm: -1}, {Op: api.OMovReg, Reg: r, Src: pick(roll, regs)}, {Op: api.OFence}, {Op: api.OXadd, Loc: m, Reg: r},
		}))
	}
	return l
}

// someCond is a condition with so many leaves.
func someCond(roll func(int) int, refs []api.Ref, leaves int) api.Cond {
	if leaves == 1 {
		c := api.Cond{{Op: api.CTrue}}
		if len(refs) > 0 && roll(8) > 0 {
			c[0] = is(pick(roll, refs), pick(roll, someValues()))
		}
		return not(c, roll(4) == 0)
	}
	k := 1 + roll(leaves-1)
	a, b := someCond(roll, refs, k), someCond(roll, refs, leaves-k)
	for i, n := range b {
		if n.Op >= api.CNot {
			b[i].A += len(a)
		}
		if n.Op >= api.CAnd {
			b[i].B += len(a)
		}
	}
	c := slices.Concat(a, b, api.Cond{{Op: api.CAnd + roll(2), A: len(a) - 1, B: len(a) + len(b) - 1}})
	return not(c, roll(6) == 0)
}

// not is a condition, or its not, in memory of its own.
func not(c api.Cond, turn bool) api.Cond {
	c = slices.Clone(c)
	if turn {
		c = append(c, api.Node{Op: api.CNot, A: len(c) - 1})
	}
	return c
}

// someSet is a set of up to so many final states of n values.
func someSet(roll func(int) int, n, most int) []api.Final {
	var l []api.Final
	for range roll(most + 1) {
		f := api.Final{N: n}
		for i := range n {
			f.V[i] = pick(roll, someValues())
		}
		l = append(l, f)
	}
	return setOf(l)
}

// wrongTests is tests of which something is wrong, by what it is.
func wrongTests(t *testing.T) map[string]api.Test {
	m := map[string]api.Test{"nothing": {}}
	add := func(what string, turn func(*api.Test)) {
		x := sb(t, "exists "+bothZero)
		turn(&x)
		m[what] = x
	}
	add("no thread", func(x *api.Test) { x.Threads = nil })
	add("five threads", func(x *api.Test) { x.Threads = append(x.Threads, nil, nil, nil) })
	add("65 settings", func(x *api.Test) { x.Inits = make([]api.Init, 65) })
	add("a setting of no thread", func(x *api.Test) { x.Inits[0].Ref = reg(2, "EAX") })
	add("a setting of no register", func(x *api.Test) { x.Inits[0].Ref = reg(1, "RAX") })
	add("a setting of no name", func(x *api.Test) { x.Inits[0].Ref = loc("") })
	add("a setting twice", func(x *api.Test) { x.Inits[1].Ref = loc("x") })
	add("no instruction", func(x *api.Test) { x.Threads[1][1].Op = 10 })
	add("many events", func(x *api.Test) { x.Threads[0] = slices.Repeat([]api.Instr{{Op: api.OFence}}, 61) })
	add("an unknown one watched", func(x *api.Test) { x.Watch = []api.Ref{reg(0, "EBX")} })
	add("one watched twice", func(x *api.Test) { x.Watch = []api.Ref{loc("x"), loc("x")} })
	add("no condition", func(x *api.Test) { x.Cond = nil })
	add("nodes of no condition", func(x *api.Test) { x.Cond[2].A = 1 })
	add("a deep condition", func(x *api.Test) {
		for range 65 {
			x.Cond = not(x.Cond, true)
		}
	})
	add("an unknown one asked for", func(x *api.Test) { x.Cond[1].Ref = loc("EAX") })
	for _, n := range []int{0, 4, -1, math.MinInt, math.MaxInt} {
		add(fmt.Sprint("the quantifier ", n), func(x *api.Test) { x.Quant = n })
	}
	add("no name", func(x *api.Test) { x.Name = "" })
	add("a quote", func(x *api.Test) { x.Doc = "\"" })
	return m
}

// wrongSets is lists that are not fitting for SB, by what is wrong.
func wrongSets() map[string][]api.Final {
	odd := func(turn func(*api.Final)) []api.Final {
		f := of(0, 1, 1, 1)
		turn(&f)
		return []api.Final{f}
	}
	m := map[string][]api.Final{
		"three values":         {of(0, 0, 1)},
		"five values":          {of(0, 0, 1, 1, 0)},
		"no values":            {of()},
		"a strange one first":  {of(1, 1, 1), of(0, 0, 1, 1)},
		"a strange one last":   {of(0, 0, 1, 1), of(0, 0, 1, 1, 1)},
		"twice":                {of(0, 0, 1, 1), of(0, 0, 1, 1)},
		"falling":              {of(0, 1, 1, 1), of(0, 0, 1, 1)},
		"falling at the end":   {of(-1, 0, 1, 1), of(0, 1, 1, 1), of(0, 0, 1, 1)},
		"falling by its sign":  {of(0, 0, 1, 1), of(-1, 0, 1, 1)},
		"one behind its end":   odd(func(f *api.Final) { f.V[4] = 1 }),
		"one at the last room": odd(func(f *api.Final) { f.V[47] = -1 }),
	}
	for _, n := range []int{math.MinInt, -4, -1, 0, 3, 5, 48, 49, 52, math.MaxInt} {
		m[fmt.Sprint("N ", n)] = odd(func(f *api.Final) { f.N = n })
	}
	return m
}

// wide is v in memory of its own, with room behind each list's end that holds something.
func wide[T any](v T) T {
	widen(reflect.ValueOf(&v).Elem())
	return v
}

func widen(v reflect.Value) {
	switch v.Kind() {
	case reflect.Slice:
		n := v.Len()
		l := reflect.MakeSlice(v.Type(), n+2, n+2)
		reflect.Copy(l, v)
		for i := range n {
			widen(l.Index(i))
		}
		spoil(l.Index(n))
		spoil(l.Index(n + 1))
		v.Set(l.Slice(0, n))
	case reflect.Struct:
		for i := range v.NumField() {
			widen(v.Field(i))
		}
	}
}

// spoil overwrites all that v holds, in the spare room too.
func spoil(v reflect.Value) {
	switch v.Kind() {
	case reflect.Slice:
		for i, l := 0, v.Slice(0, v.Cap()); i < l.Len(); i++ {
			spoil(l.Index(i))
		}
	case reflect.Struct:
		for i := range v.NumField() {
			spoil(v.Field(i))
		}
	case reflect.Array:
		for i := range v.Len() {
			spoil(v.Index(i))
		}
	case reflect.Int, reflect.Int64:
		v.SetInt(-77)
	case reflect.Uint64:
		v.SetUint(77)
	case reflect.Bool:
		v.SetBool(true)
	case reflect.String:
		v.SetString("spoilt")
	}
}

// whole is what v and all lists in it hold, their spare room too.
func whole(v reflect.Value) string {
	switch v.Kind() {
	case reflect.Slice:
		s := fmt.Sprint("[", v.Len(), ":")
		for i, l := 0, v.Slice(0, v.Cap()); i < l.Len(); i++ {
			s += whole(l.Index(i)) + " "
		}
		return s + "]"
	case reflect.Struct:
		s := "{"
		for i := range v.NumField() {
			s += whole(v.Field(i)) + " "
		}
		return s + "}"
	}
	return fmt.Sprintf("%#v", v)
}

// span is where a list lies in memory, with its spare room.
type span struct{ begin, end uintptr }

// spans is where all lists of v lie.
func spans(v reflect.Value) []span {
	var l []span
	switch v.Kind() {
	case reflect.Slice:
		if v.Cap() > 0 {
			l = append(l, span{v.Pointer(), v.Pointer() + uintptr(v.Cap())*v.Type().Elem().Size()})
		}
		for i, all := 0, v.Slice(0, v.Cap()); i < all.Len(); i++ {
			l = append(l, spans(all.Index(i))...)
		}
	case reflect.Struct:
		for i := range v.NumField() {
			l = append(l, spans(v.Field(i))...)
		}
	}
	return l
}

// apart holds all lists of some values against each other: no two may share memory.
func apart(t *testing.T, values ...any) {
	t.Helper()
	var l []span
	for _, v := range values {
		l = append(l, spans(reflect.ValueOf(v))...)
	}
	slices.SortFunc(l, func(a, b span) int { return cmp.Compare(a.begin, b.begin) })
	for i := 1; i < len(l); i++ {
		if l[i].begin < l[i-1].end {
			t.Fatalf("two lists share memory")
		}
	}
}

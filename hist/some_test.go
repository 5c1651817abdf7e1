package hist_test

import (
	"cmp"
	"fmt"
	"math"
	"reflect"
	"slices"
	"strings"
	"testing"

	"weir/api"
	"weir/litmus"
	"weir/prog"
)

// dice is a row of numbers that look unruly and are the same at every run.
func dice(seed uint64) func(n int) int {
	return func(n int) int {
		seed += 0x9e3779b97f4a7c15
		z := (seed ^ seed>>30) * 0xbf58476d1ce4e5b9
		z = (z ^ z>>27) * 0x94d049bb133111eb
		return int((z ^ z>>31) % uint64(n))
	}
}

func pick[T any](roll func(int) int, l []T) T { return l[roll(len(l))] }

// some is n elements of a list, in any order.
func some[T any](roll func(int) int, l []T, n int) []T {
	l = slices.Clone(l)
	for i := range l {
		k := i + roll(len(l)-i)
		l[i], l[k] = l[k], l[i]
	}
	return l[:n]
}

func loc(name string) api.Ref { return api.Ref{Thread: -1, Name: name} }

func reg(thread int, name string) api.Ref { return api.Ref{Thread: thread, Name: name} }

func is(r api.Ref, v int64) api.Node { return api.Node{Op: api.CIs, Ref: r, Value: v} }

// of is the final state of some values.
func of(l ...int64) api.Final {
	f := api.Final{N: len(l)}
	copy(f.V[:], l)
	return f
}

func row(n int64, l ...int64) api.Row { return api.Row{Count: n, Final: of(l...)} }

// short is the beginning of what some values hold, for telling.
func short(values ...any) string { return fmt.Sprintf("%.1000s", fmt.Sprintln(values...)) }

// parsed is the test of a file.
func parsed(t *testing.T, file string) api.Test {
	t.Helper()
	x, err := litmus.Parse(file)
	if err != nil {
		t.Fatalf("%s: %v", file, err)
	}
	if w, e := prog.Check(x); e != api.OK {
		t.Fatalf("%s: %d at %v", file, e, w)
	}
	return x
}

// sb is SB with a question.
func sb(t *testing.T, question string) api.Test {
	t.Helper()
	return parsed(t, `X86 SB { x=0; y=0; } P0 | P1 ; MOV [x],$1 | MOV [y],$1 ; MOV EAX,[y] | MOV EAX,[x] ; `+question)
}

const bothZero = `(0:EAX=0 /\ 1:EAX=0)`

// four is the final states of SB.
func four() []api.Final {
	return []api.Final{of(0, 0, 1, 1), of(0, 1, 1, 1), of(1, 0, 1, 1), of(1, 1, 1, 1)}
}

// seen is a histogram of SB, with the rows of the chapter's first example and some more of them.
func seen(more ...api.Row) api.Hist {
	return api.Hist{
		Name:  "SB",
		Quant: api.Exists,
		Refs:  []api.Ref{reg(0, "EAX"), reg(1, "EAX")},
		Rows:  append([]api.Row{row(2, 0, 1), row(1, 1, 0)}, more...),
		Cond:  api.Cond{is(reg(0, "EAX"), 0), is(reg(1, "EAX"), 0), {Op: api.CAnd, A: 0, B: 1}},
	}
}

// none is a histogram of SB without rows.
func none() api.Hist {
	h := seen()
	h.Refs, h.Rows = nil, nil
	return h
}

// progOf is a test's program.
func progOf(t *testing.T, x api.Test) api.Prog {
	t.Helper()
	p, e := prog.Of(x)
	if e != api.OK {
		t.Fatalf("prog.Of(%s): %d", short(x), e)
	}
	return p
}

func someRegs() []string {
	return strings.Fields("EAX EBP EBX ECX EDI EDX ESI ESP R10 R11 R12 R13 R14 R15 R8 R9")
}

// someNames is names of anything; some are those of other things, and words of logs.
func someNames() []string {
	return []string{"x", "y", "_", "EAX", "R15", "true", "exists", "is", "NOT", "validated", "a.b", "a.", "a+b-c", "X", "Test", "states", strings.Repeat("n", 64), "a" + strings.Repeat("+b", 31)}
}

func someValues() []int64 {
	return []int64{0, 0, 0, 0, 0, 0, 1, 1, 1, 1, 2, -1, 16, math.MaxInt64, math.MinInt64}
}

// someTest is a test of which nothing is wrong: few names or many, some of them only set, and a question about them.
func someTest(roll func(int) int) api.Test {
	x := api.Test{Name: pick(roll, someNames()), Doc: pick(roll, []string{"", "a doc", "\x00\xff"}), Quant: 1 + roll(3)}
	locs := some(roll, someNames(), roll(pick(roll, []int{2, 4, 17})))
	refs := []api.Ref{}
	for _, s := range locs {
		refs = append(refs, loc(s))
	}
	for k := range 1 + roll(4) {
		regs := some(roll, someRegs(), roll(pick(roll, []int{2, 4, 9})))
		x.Threads = append(x.Threads, someThread(roll, regs, locs))
		for _, s := range regs {
			refs = append(refs, reg(k, s))
		}
	}
	for _, r := range some(roll, refs, len(refs)) { // each is named by a setting; instructions name some once more
		x.Inits = append(x.Inits, api.Init{Ref: r, Value: pick(roll, someValues())})
	}
	x.Watch = some(roll, refs, roll(min(len(refs), pick(roll, []int{0, 2, 48}))+1))
	x.Cond = someCond(roll, refs, 1+roll(pick(roll, []int{1, 3, 8})))
	return x
}

// someThread is a few instructions over names.
func someThread(roll func(int) int, regs, locs []string) []api.Instr {
	var l []api.Instr
	if len(regs) == 0 || len(locs) == 0 {
		return l
	}
	for range roll(4) {
		r, m := pick(roll, regs), pick(roll, locs)
		l = append(l, pick(roll, []api.Instr{
			{Op: api.OLoad, Reg: r, Loc: m}, {Op: api.OStoreReg, Src: r, Loc: m}, {Op: api.OStoreImm, Loc: m, Imm: 1},
			{Op: api.OMovImm, Reg: r, Imm: -1}, {Op: api.OMovReg, Reg: r, Src: pick(roll, regs)}, {Op: api.OFence}, {Op: api.OXadd, Loc: m, Reg: r},
		}))
	}
	return l
}

// someCond is a condition with so many leaves.
func someCond(roll func(int) int, refs []api.Ref, leaves int) api.Cond {
	if leaves == 1 {
		c := api.Cond{{Op: api.CTrue}}
		if len(refs) > 0 && roll(8) > 0 {
			c[0] = is(pick(roll, refs), pick(roll, someValues()))
		}
		return not(c, roll(4) == 0)
	}
	k := 1 + roll(leaves-1)
	a, b := someCond(roll, refs, k), someCond(roll, refs, leaves-k)
	for i, n := range b {
		if n.Op >= api.CNot {
			b[i].A += len(a)
		}
		if n.Op >= api.CAnd {
			b[i].B += len(a)
		}
	}
	c := slices.Concat(a, b, api.Cond{{Op: api.CAnd + roll(2), A: len(a) - 1, B: len(a) + len(b) - 1}})
	return not(c, roll(6) == 0)
}

// not is a condition, or its not, in memory of its own.
func not(c api.Cond, turn bool) api.Cond {
	c = slices.Clone(c)
	if turn {
		c = append(c, api.Node{Op: api.CNot, A: len(c) - 1})
	}
	return c
}

// someRuns is up to so many final states of n values, few of them unlike, in any order.
func someRuns(roll func(int) int, n, most int) []api.Final {
	var kinds, l []api.Final
	for range 1 + roll(6) {
		f := api.Final{N: n}
		for i := range n {
			f.V[i] = pick(roll, someValues())
		}
		kinds = append(kinds, f)
	}
	for range roll(most + 1) {
		l = append(l, pick(roll, kinds))
	}
	return l
}

// someRefs is up to so many references, rising.
func someRefs(roll func(int) int, most int) []api.Ref {
	var l []api.Ref
	for range roll(most + 1) {
		l = append(l, api.Ref{Thread: pick(roll, []int{-1, 0, 1, 2, 3, 9, 10, 9998, 9999}), Name: pick(roll, someNames())})
	}
	slices.SortFunc(l, func(a, b api.Ref) int { return cmp.Compare(refKey(a), refKey(b)) })
	return slices.Compact(l)
}

// someCounts is counts, of few digits and of many, which can all be added up.
func someCounts(roll func(int) int, n int) []int64 {
	var l []int64
	for range n {
		l = append(l, pick(roll, []int64{1, 1, 2, 9, 10, 99999, 100000, 999999, 1000000, 1 << 40}))
	}
	if n > 0 && roll(4) == 0 {
		l[roll(n)] = math.MaxInt64 - int64(n)<<40
	}
	return l
}

// someHist is a right histogram, of any names.
func someHist(roll func(int) int) api.Hist {
	h := api.Hist{Name: pick(roll, someNames()), Quant: 1 + roll(3), Refs: someRefs(roll, pick(roll, []int{0, 2, 4, 60}))}
	h.Refs = h.Refs[:min(48, len(h.Refs))]
	h.Cond = someCond(roll, h.Refs, 1+roll(pick(roll, []int{1, 3, 8})))
	finals := setOf(someRuns(roll, len(h.Refs), pick(roll, []int{0, 1, 3, 9})))
	for i, n := range someCounts(roll, len(finals)) {
		h.Rows = append(h.Rows, api.Row{Count: n, Final: finals[i]})
	}
	if len(finals) == 0 {
		h.Refs = nil
	}
	return h
}

// wrongHists is histograms of SB of each of which one thing is wrong, by what it is.
func wrongHists() map[string]api.Hist {
	m := map[string]api.Hist{"nothing": {}}
	add := func(what string, turn func(*api.Hist)) {
		h := seen(row(7, 1, 1))
		turn(&h)
		m[what] = h
	}
	for _, s := range []string{"", " ", "S B", "SB ", "1", "-", "a-", "a+", "a--b", "é", "S\nB", "(", "SB;", strings.Repeat("n", 65)} {
		add(fmt.Sprintf("the name %q", s), func(h *api.Hist) { h.Name = s })
		add(fmt.Sprintf("a register %q", s), func(h *api.Hist) { h.Refs[0].Name, h.Cond[0].Ref.Name = s, s })
		add(fmt.Sprintf("a reference %q that nobody asks for", s), func(h *api.Hist) { h.Refs[0].Name, h.Cond = s, api.Cond{{Op: api.CTrue}} })
	}
	for _, n := range []int{0, 4, -1, math.MinInt, math.MaxInt} {
		add(fmt.Sprint("the quantifier ", n), func(h *api.Hist) { h.Quant = n })
	}
	for _, n := range []int{-2, 10000, 1 << 32, 1<<32 - 1, math.MinInt, math.MaxInt} {
		add(fmt.Sprint("the thread ", n), func(h *api.Hist) {
			h.Refs, h.Cond = []api.Ref{reg(0, "EAX"), reg(n, "EAX")}, api.Cond{{Op: api.CTrue}}
			if n < 0 {
				slices.Reverse(h.Refs)
			}
		})
	}
	wrongRows(add)
	wrongQuestions(add)
	return m
}

// wrongRows adds histograms whose rows, or what they are of, are wrong.
func wrongRows(add func(string, func(*api.Hist))) {
	add("the same reference twice", func(h *api.Hist) { h.Refs[1], h.Cond[1].Ref = h.Refs[0], h.Refs[0] })
	add("threads that fall", func(h *api.Hist) { h.Refs[0].Thread, h.Cond[0].Ref.Thread = 2, 2 })
	add("names that fall", func(h *api.Hist) {
		h.Refs, h.Cond = []api.Ref{reg(1, "EBX"), reg(1, "EAX")}, api.Cond{{Op: api.CTrue}}
	})
	add("locations first", func(h *api.Hist) { h.Refs[0], h.Cond[0].Ref = loc("x"), loc("x") })
	add("a reference more", func(h *api.Hist) { h.Refs = append(h.Refs, loc("x")) })
	add("a reference less", func(h *api.Hist) { h.Refs, h.Cond = h.Refs[:1], api.Cond{{Op: api.CTrue}} })
	for _, n := range []int64{0, -1, math.MinInt64, math.MaxInt64, math.MaxInt64 - 2} { // the last one is one too many for the last row
		for i := range 3 {
			add(fmt.Sprint("the count ", n, " of row ", i), func(h *api.Hist) { h.Rows[i].Count = n })
		}
	}
	add("counts that wrap round twice", func(h *api.Hist) {
		for i := range h.Rows {
			h.Rows[i].Count = math.MaxInt64
		}
	})
	for _, n := range []int{math.MinInt, -2, -1, 0, 1, 3, 48, 49, 50, math.MaxInt} {
		add(fmt.Sprint("N ", n), func(h *api.Hist) { h.Rows[2].Final.N = n })
	}
	add("a value behind the end", func(h *api.Hist) { h.Rows[0].Final.V[2] = 1 })
	add("a value at the last place", func(h *api.Hist) { h.Rows[2].Final.V[47] = -1 })
	add("the same row twice", func(h *api.Hist) { h.Rows[1].Final = h.Rows[0].Final })
	add("rows that fall", func(h *api.Hist) { h.Rows[0], h.Rows[1] = h.Rows[1], h.Rows[0] })
	add("rows that fall by a sign", func(h *api.Hist) { h.Rows[2].Final.V[0] = -1 })
	add("49 references", func(h *api.Hist) {
		h.Refs, h.Rows, h.Cond = nil, []api.Row{{Count: 1, Final: api.Final{N: 49}}}, api.Cond{{Op: api.CTrue}}
		for i := range 49 {
			h.Refs = append(h.Refs, loc(fmt.Sprintf("l%02d", i)))
		}
	})
	add("references without rows", func(h *api.Hist) { h.Rows = nil })
	add("references without rows, though nobody asks", func(h *api.Hist) { h.Rows, h.Cond = nil, api.Cond{{Op: api.CTrue}} })
	add("a row without references", func(h *api.Hist) { h.Refs, h.Rows = nil, []api.Row{row(1)} })
}

// wrongQuestions adds histograms whose conditions are none, or ask for something else.
func wrongQuestions(add func(string, func(*api.Hist))) {
	add("no condition", func(h *api.Hist) { h.Cond = nil })
	add("nodes of no condition", func(h *api.Hist) { h.Cond[2].A = 1 })
	add("a node more", func(h *api.Hist) { h.Cond = append(h.Cond, api.Node{Op: api.CTrue}) })
	add("a deep condition", func(h *api.Hist) {
		for range 65 {
			h.Cond = not(h.Cond, true)
		}
	})
	add("a deep condition without rows", func(h *api.Hist) {
		h.Refs, h.Rows = nil, nil
		for range 65 {
			h.Cond = not(h.Cond, true)
		}
	})
	for _, r := range []api.Ref{loc("EAX"), loc("x"), reg(0, "EBX"), reg(2, "EAX"), reg(9999, "x")} {
		add(fmt.Sprint("a condition about ", r), func(h *api.Hist) { h.Cond[1].Ref = r })
	}
	for _, r := range []api.Ref{loc(""), reg(-2, "x"), reg(10000, "x")} {
		add(fmt.Sprint("a condition about ", r, " without rows"), func(h *api.Hist) { h.Refs, h.Rows, h.Cond[1].Ref = nil, nil, r })
	}
}

// wrongTests is tests of which something is wrong, by what it is.
func wrongTests(t *testing.T) map[string]api.Test {
	m := map[string]api.Test{"nothing": {}}
	add := func(what string, turn func(*api.Test)) {
		x := sb(t, "exists "+bothZero)
		turn(&x)
		m[what] = x
	}
	add("no thread", func(x *api.Test) { x.Threads = nil })
	add("five threads", func(x *api.Test) { x.Threads = append(x.Threads, nil, nil, nil) })
	add("65 settings", func(x *api.Test) { x.Inits = make([]api.Init, 65) })
	add("a setting of no register", func(x *api.Test) { x.Inits[0].Ref = reg(1, "RAX") })
	add("a setting twice", func(x *api.Test) { x.Inits[1].Ref = loc("x") })
	add("no instruction", func(x *api.Test) { x.Threads[1][1].Op = 10 })
	add("many events", func(x *api.Test) { x.Threads[0] = slices.Repeat([]api.Instr{{Op: api.OFence}}, 61) })
	add("an unknown one watched", func(x *api.Test) { x.Watch = []api.Ref{reg(0, "EBX")} })
	add("no condition", func(x *api.Test) { x.Cond = nil })
	add("a deep condition", func(x *api.Test) {
		for range 65 {
			x.Cond = not(x.Cond, true)
		}
	})
	add("an unknown one asked for", func(x *api.Test) { x.Cond[1].Ref = loc("EAX") })
	add("the quantifier 4", func(x *api.Test) { x.Quant = 4 })
	add("no name", func(x *api.Test) { x.Name = "" })
	add("a quote", func(x *api.Test) { x.Doc = "\"" })
	return m
}

// wrongRuns is lists in which some final state is none of SB, by what is wrong.
func wrongRuns() map[string][]api.Final {
	m := map[string][]api.Final{
		"three values":         {of(0, 0, 1)},
		"five values":          {of(0, 0, 1, 1, 0)},
		"no values":            {of()},
		"what is looked at":    {of(0, 0)},
		"a strange one first":  {of(1, 1, 1), of(0, 0, 1, 1)},
		"a strange one last":   {of(0, 0, 1, 1), of(0, 0, 1, 1, 1)},
		"one behind its end":   {of(0, 0, 1, 1), {N: 4, V: [48]int64{0, 0, 1, 1, 1}}},
		"one at the last room": {{N: 4, V: [48]int64{47: 1}}},
	}
	for _, n := range []int{math.MinInt, -4, -1, 48, 49, 52, math.MaxInt} {
		m[fmt.Sprint("N ", n)] = []api.Final{{N: n}}
	}
	return m
}

// wide is v in memory of its own, with room behind each list's end that holds something.
func wide[T any](v T) T {
	widen(reflect.ValueOf(&v).Elem())
	return v
}

func widen(v reflect.Value) {
	switch v.Kind() {
	case reflect.Slice:
		n := v.Len()
		l := reflect.MakeSlice(v.Type(), n+2, n+2)
		reflect.Copy(l, v)
		for i := range n {
			widen(l.Index(i))
		}
		spoil(l.Index(n))
		spoil(l.Index(n + 1))
		v.Set(l.Slice(0, n))
	case reflect.Struct:
		for i := range v.NumField() {
			widen(v.Field(i))
		}
	}
}

// spoil overwrites all that v holds, in the spare room too.
func spoil(v reflect.Value) {
	switch v.Kind() {
	case reflect.Slice:
		for i, l := 0, v.Slice(0, v.Cap()); i < l.Len(); i++ {
			spoil(l.Index(i))
		}
	case reflect.Struct:
		for i := range v.NumField() {
			spoil(v.Field(i))
		}
	case reflect.Array:
		for i := range v.Len() {
			spoil(v.Index(i))
		}
	case reflect.Int, reflect.Int64:
		v.SetInt(-77)
	case reflect.String:
		v.SetString("spoilt")
	}
}

// whole is what v and all lists in it hold, their spare room too.
func whole(v any) string {
	var put func(v reflect.Value) string
	put = func(v reflect.Value) string {
		switch v.Kind() {
		case reflect.Slice:
			s := fmt.Sprint("[", v.Len(), ":")
			for i, l := 0, v.Slice(0, v.Cap()); i < l.Len(); i++ {
				s += put(l.Index(i)) + " "
			}
			return s + "]"
		case reflect.Struct:
			s := "{"
			for i := range v.NumField() {
				s += put(v.Field(i)) + " "
			}
			return s + "}"
		}
		return fmt.Sprintf("%#v", v)
	}
	return put(reflect.ValueOf(v))
}

// span is where a list lies in memory, with its spare room.
type span struct{ begin, end uintptr }

// spans is where all lists of v lie.
func spans(v reflect.Value) []span {
	var l []span
	switch v.Kind() {
	case reflect.Slice:
		if v.Cap() > 0 {
			l = append(l, span{v.Pointer(), v.Pointer() + uintptr(v.Cap())*v.Type().Elem().Size()})
		}
		for i, all := 0, v.Slice(0, v.Cap()); i < all.Len(); i++ {
			l = append(l, spans(all.Index(i))...)
		}
	case reflect.Struct:
		for i := range v.NumField() {
			l = append(l, spans(v.Field(i))...)
		}
	}
	return l
}

// apart holds all lists of some values against each other: no two may share memory.
func apart(t *testing.T, values ...any) {
	t.Helper()
	var l []span
	for _, v := range values {
		l = append(l, spans(reflect.ValueOf(v))...)
	}
	slices.SortFunc(l, func(a, b span) int { return cmp.Compare(a.begin, b.begin) })
	for i := 1; i < len(l); i++ {
		if l[i].begin < l[i-1].end {
			t.Fatalf("two lists share memory")
		}
	}
}

package allow_test

import (
	"cmp"
	"fmt"
	"math"
	"reflect"
	"slices"
	"strings"
	"testing"

	"weir/api"
	"weir/cand"
	"weir/cat"
	"weir/event"
	"weir/litmus"
	"weir/model"
	"weir/prog"
)

// dice is a row of numbers that look unruly and are the same at every run.
func dice(seed uint64) func(n int) int {
	return func(n int) int {
		seed += 0x9e3779b97f4a7c15
		z := (seed ^ seed>>30) * 0xbf58476d1ce4e5b9
		z = (z ^ z>>27) * 0x94d049bb133111eb
		return int((z ^ z>>31) % uint64(n))
	}
}

func pick[T any](roll func(int) int, l []T) T { return l[roll(len(l))] }

// of is the program of settings and of threads, whose instructions stand with a ; between them.
func of(t *testing.T, settings string, threads ...string) api.Prog {
	t.Helper()
	x := api.Test{Name: "t", Quant: api.Exists, Cond: api.Cond{{Op: api.CTrue}}}
	for _, thread := range threads {
		var l []api.Instr
		for _, text := range strings.FieldsFunc(thread, func(r rune) bool { return r == ';' }) {
			in, err := litmus.Instruction(text)
			if err != nil {
				t.Fatalf("%s: %v", text, err)
			}
			l = append(l, in)
		}
		x.Threads = append(x.Threads, l)
	}
	set, err := litmus.Parse("X86 t {" + settings + "} P0; exists true")
	if err != nil {
		t.Fatalf("%s: %v", settings, err)
	}
	x.Inits = set.Inits
	p, e := prog.Of(x)
	if e != api.OK {
		t.Fatalf("%s: %d", threads, e)
	}
	return p
}

func sb(t *testing.T) api.Prog {
	return of(t, "x=0; y=0", "MOV [x],$1; MOV EAX,[y]", "MOV [y],$1; MOV EAX,[x]")
}

func mp(t *testing.T) api.Prog {
	return of(t, "x=0; y=0", "MOV [x],$1; MOV [y],$1", "MOV EAX,[y]; MOV EBX,[x]")
}

// kinds is the three models.
func kinds() []int { return []int{api.MSC, api.MTSO, api.MPSO} }

// noKinds is numbers of no model.
func noKinds() []int { return []int{0, -1, 4, 64, math.MinInt, math.MaxInt} }

// known is one of the three models.
func known(t *testing.T, kind int) api.Model {
	t.Helper()
	m, e := model.Known(kind)
	if e != api.OK {
		t.Fatalf("model.Known(%d): %d", kind, e)
	}
	return m
}

// parsed is the model of a text.
func parsed(t *testing.T, s string) api.Model {
	t.Helper()
	m, err := cat.Parse(s)
	if err != nil {
		t.Fatalf("%s: %v", s, err)
	}
	return m
}

// all is a program with every kind of instruction; no instruction names w.
func all(t *testing.T) api.Prog {
	return of(t, "x=3; 0:EAX=1; 0:EBX=2; 1:EAX=3; 1:R8=-1; w=7",
		"MOV EBX,$-5; MOV [y],EBX; MFENCE; MOV EAX,[z]",
		"LOCK XADD [x],R8; LOCK CMPXCHG [x],R8; MOV R8,EAX; MOV [z],$4",
		"MOV EDI,[x]; XCHG [y],EDI; LOCK CMPXCHG [z],EDI; LOCK CMPXCHG [y],EDI")
}

// bare is a program of so many threads without instructions, registers and locations.
func bare(threads int) api.Prog {
	return api.Prog{Threads: make([][]api.Op, threads), Regs: make([][]string, threads), RegInit: make([][]int64, threads)}
}

// someThread is an unruly thread, of every kind of instruction.
func someThread(roll func(int) int, length int) string {
	var l []string
	for range length {
		loc, reg := pick(roll, []string{"x", "y", "z"}), pick(roll, []string{"EAX", "EBX"})
		l = append(l, pick(roll, []string{
			"MOV [" + loc + "],$" + fmt.Sprint(1+roll(3)), "MOV [" + loc + "]," + reg,
			"MOV " + reg + ",[" + loc + "]", "MOV " + reg + ",$" + fmt.Sprint(roll(3)), "MOV EAX,EBX", "MFENCE",
			"XCHG [" + loc + "]," + reg, "LOCK XADD [" + loc + "]," + reg,
			"LOCK CMPXCHG [" + loc + "]," + reg, "LOCK CMPXCHG [" + loc + "]," + reg,
		}))
	}
	return strings.Join(l, ";")
}

// someProg is an unruly program of up to so many instructions, in one to four threads.
func someProg(t *testing.T, roll func(int) int, most int) api.Prog {
	t.Helper()
	threads := make([]string, 1+roll(4))
	for range 1 + roll(most) {
		i := roll(len(threads))
		threads[i] += someThread(roll, 1) + ";"
	}
	return of(t, pick(roll, []string{"", "x=1", "y=-1; 0:EAX=1", "0:EBX=2; x=2; y=1", "x=9223372036854775807; 0:EAX=9223372036854775807", "a=5"}), threads...)
}

// pairs is how many pairs of a choice of reads and an order of writes a program has, by all fails: it has no more candidates.
func pairs(p api.Prog) int {
	n, _ := event.Tries(p)
	sum := 0
	for fails := range api.Set(1) << n {
		k, e := cand.Space(p, fails)
		if e != api.OK || k > 1<<30 {
			return math.MaxInt
		}
		sum += int(k)
	}
	return sum
}

// knownProgs is programs that people know, and some at the edges.
func knownProgs(t *testing.T) []api.Prog {
	t.Helper()
	return []api.Prog{
		sb(t), mp(t), bare(1), bare(4), of(t, "a=1; b=2", ""), of(t, "", "MFENCE"), of(t, "0:EAX=4", "MOV EAX,EBX; MOV EBX,$-1"),
		of(t, "", "MOV [x],$1; MFENCE; MOV EAX,[y]", "MOV [y],$1; MFENCE; MOV EAX,[x]"),
		of(t, "", "MOV [x],$1; MOV [y],$2", "MOV [y],$1; MOV [x],$2"),
		of(t, "", "MOV EAX,[x]; MOV [y],$1", "MOV EAX,[y]; MOV [x],$1"),
		of(t, "", "MOV [x],$1", "MOV [y],$1", "MOV EAX,[x]; MOV EBX,[y]", "MOV EAX,[y]; MOV EBX,[x]"),
		of(t, "", "MOV [x],$1; MOV EAX,[x]; MOV EBX,[y]", "MOV [y],$1; MOV EAX,[y]; MOV EBX,[x]"),
		of(t, "0:EAX=1; 1:EAX=1", "LOCK XADD [x],EAX", "LOCK XADD [x],EAX"),
		of(t, "0:EBX=5", "LOCK CMPXCHG [x],EBX"), of(t, "0:EBX=5; 1:EBX=6", "LOCK CMPXCHG [x],EBX", "LOCK CMPXCHG [x],EBX"),
		of(t, "0:EAX=1; 1:EAX=1", "XCHG [x],EAX; MOV EBX,[y]", "XCHG [y],EAX; MOV EBX,[x]"),
		// Several candidates have one final state: the same value is written twice.
		of(t, "", "MOV [x],$1; MOV EAX,[x]", "MOV [x],$1; MOV EAX,[x]"),
	}
}

// smallProgs is those, and unruly ones, of which each has at most so many pairs.
func smallProgs(t *testing.T, roll func(int) int, n, most int) []api.Prog {
	t.Helper()
	l := knownProgs(t)
	for len(l) < n {
		if p := someProg(t, roll, 8); pairs(p) <= most {
			l = append(l, p)
		}
	}
	return l
}

// wrongProgs is programs that are not right, by what is wrong.
func wrongProgs(t *testing.T) map[string]api.Prog {
	m := map[string]api.Prog{"nothing": {}, "five threads": bare(5)}
	add := func(what string, turn func(*api.Prog)) {
		p := all(t)
		turn(&p)
		m[what] = p
	}
	add("a thread less", func(p *api.Prog) { p.Threads = p.Threads[1:] })
	add("a value more", func(p *api.Prog) { p.RegInit[1] = append(p.RegInit[1], 1) })
	add("nine registers", func(p *api.Prog) {
		p.Regs[0], p.RegInit[0] = strings.Fields("EAX EBP EBX ECX EDI EDX ESI ESP R8"), make([]int64, 9)
	})
	add("a location's value less", func(p *api.Prog) { p.LocInit = p.LocInit[1:] })
	add("seventeen locations", func(p *api.Prog) {
		p.Locs, p.LocInit = nil, make([]int64, 17)
		for i := range 17 {
			p.Locs = append(p.Locs, fmt.Sprintf("l%02d", i))
		}
	})
	for _, n := range []int{-1, 4, math.MinInt, math.MaxInt} {
		add(fmt.Sprint("a location ", n), func(p *api.Prog) { p.Threads[1][0].Loc = n })
	}
	for _, n := range []int{-1, 0, 10, math.MinInt, math.MaxInt} {
		add(fmt.Sprint("an instruction ", n), func(p *api.Prog) { p.Threads[2][3].Kind = n })
	}
	add("CMPXCHG of another register", func(p *api.Prog) { p.Threads[2][2].Reg = 1 })
	add("many fences", func(p *api.Prog) {
		p.Threads[0] = append(p.Threads[0], slices.Repeat([]api.Op{{Kind: api.OFence}}, 60)...)
	})
	return m
}

const (
	relNames = "po loc int ext rmw rf rfe rfi co coe coi fr fre fri id"
	setNames = "W IW R M F L _"
)

// someTerm is the text of a term of a sort, with some leaves, all in brackets; lets is the names that were let, by their sorts.
func someTerm(roll func(int) int, sort, leaves int, lets [3][]string) string {
	if roll(4) == 0 {
		if sort == api.SSet {
			return "~(" + someTerm(roll, sort, leaves, lets) + ")"
		}
		before, behind := "", pick(roll, []string{"^-1", "+", "*", "?", ""})
		if behind == "" {
			before = "~"
		}
		return before + "(" + someTerm(roll, sort, leaves, lets) + ")" + behind
	}
	if leaves == 1 {
		return someLeaf(roll, sort, lets)
	}
	k := 1 + roll(leaves-1)
	sign, inner := pick(roll, []string{"|", "&", `\`}), sort
	if sort == api.SRel && roll(3) == 0 {
		sign, inner = "*", api.SSet
	} else if sort == api.SRel && roll(3) == 0 {
		sign = ";"
	}
	return "(" + someTerm(roll, inner, k, lets) + ") " + sign + " (" + someTerm(roll, inner, leaves-k, lets) + ")"
}

func someLeaf(roll func(int) int, sort int, lets [3][]string) string {
	if l := lets[sort]; len(l) > 0 && roll(2) == 0 {
		return pick(roll, l)
	}
	if sort == api.SSet {
		return pick(roll, strings.Fields(setNames))
	}
	if roll(5) == 0 {
		return "[" + someTerm(roll, api.SSet, 1, lets) + "]"
	}
	return pick(roll, strings.Fields(relNames+" 0"))
}

// someModel is a model of so many rules; its lets are named by rules behind them.
func someModel(t *testing.T, roll func(int) int, rules, leaves int) api.Model {
	t.Helper()
	text := "t"
	var lets [3][]string
	for i := range rules {
		sort := api.SRel + roll(3)/2
		term := someTerm(roll, sort, 1+roll(leaves), lets)
		switch {
		case roll(2) == 0:
			name := "n" + fmt.Sprint(i)
			text += "\nlet " + name + " = " + term
			lets[sort] = append(lets[sort], name)
		case sort == api.SSet:
			text += "\nempty " + term
		default:
			text += "\n" + pick(roll, []string{"acyclic ", "irreflexive ", "empty "}) + term + pick(roll, []string{"", " as n0", " as po"})
		}
	}
	return parsed(t, text)
}

// someChecks is a model of a few checks, of which each strikes some candidates.
func someChecks(t *testing.T, roll func(int) int) api.Model {
	t.Helper()
	text := "t let com = rf | co | fr"
	for range roll(4) {
		text += "\n" + pick(roll, []string{
			"acyclic po & loc | com", "acyclic po | rf", "acyclic po | com as sc", "empty rmw & (fr ; co) as atomic", "irreflexive fr ; rf", "irreflexive po ; co",
			"irreflexive po ; rf", "empty rfi", "empty [IW] ; rfe ; po", "empty coe ; rfe", "irreflexive fre ; rfe ; po", "acyclic po & R * M | rfe | co", "irreflexive rmw ; co ; fr",
		})
	}
	return parsed(t, text)
}

// wrongModels is models that are not right, by what is wrong.
func wrongModels() map[string]api.Model {
	one := func(r api.Rule) api.Model { return api.Model{Name: "t", Rules: []api.Rule{r}} }
	name := func(n string) []api.Term { return []api.Term{{Op: api.XName, Name: n}} }
	deep := name("W")
	for range 65 {
		deep = append(deep, api.Term{Op: api.XNot, A: len(deep) - 1})
	}
	return map[string]api.Model{
		"nothing":         {},
		"a word's name":   {Name: "let"},
		"many nodes":      {Name: "t", Rules: slices.Repeat([]api.Rule{{Kind: api.REmpty, Terms: name("W")}}, 1025)},
		"no kind":         one(api.Rule{Kind: 5, Terms: name("po")}),
		"no nodes":        one(api.Rule{Kind: api.REmpty}),
		"a name unknown":  one(api.Rule{Kind: api.REmpty, Terms: name("ppo")}),
		"a round of sets": one(api.Rule{Kind: api.RAcyclic, Terms: name("W")}),
		"a let twice":     {Name: "t", Rules: slices.Repeat([]api.Rule{{Kind: api.RLet, Name: "a", Terms: name("po")}}, 2)},
		"a deep term":     one(api.Rule{Kind: api.REmpty, Terms: deep}),
		"parts ahead":     one(api.Rule{Kind: api.REmpty, Terms: []api.Term{{Op: api.XNot, A: 1}, {Op: api.XName, Name: "po"}}}),
	}
}

// wide is v in memory of its own, with room behind each list's end that holds something.
func wide[T any](v T) T {
	widen(reflect.ValueOf(&v).Elem())
	return v
}

func widen(v reflect.Value) {
	switch v.Kind() {
	case reflect.Slice:
		n := v.Len()
		l := reflect.MakeSlice(v.Type(), n+2, n+2)
		reflect.Copy(l, v)
		for i := range n {
			widen(l.Index(i))
		}
		spoil(l.Index(n))
		spoil(l.Index(n + 1))
		v.Set(l.Slice(0, n))
	case reflect.Struct:
		for i := range v.NumField() {
			widen(v.Field(i))
		}
	}
}

// spoil overwrites all that v holds, in the spare room too.
func spoil(v reflect.Value) {
	switch v.Kind() {
	case reflect.Slice:
		for i, l := 0, v.Slice(0, v.Cap()); i < l.Len(); i++ {
			spoil(l.Index(i))
		}
	case reflect.Struct:
		for i := range v.NumField() {
			spoil(v.Field(i))
		}
	case reflect.Array:
		for i := range v.Len() {
			spoil(v.Index(i))
		}
	case reflect.Int, reflect.Int64:
		v.SetInt(-77)
	case reflect.Uint64:
		v.SetUint(77)
	case reflect.Bool:
		v.SetBool(true)
	case reflect.String:
		v.SetString("spoilt")
	}
}

// whole is what v and all lists in it hold, their spare room too.
func whole(v reflect.Value) string {
	switch v.Kind() {
	case reflect.Slice:
		s := fmt.Sprint("[", v.Len(), ":")
		for i, l := 0, v.Slice(0, v.Cap()); i < l.Len(); i++ {
			s += whole(l.Index(i)) + " "
		}
		return s + "]"
	case reflect.Struct:
		s := "{"
		for i := range v.NumField() {
			s += whole(v.Field(i)) + " "
		}
		return s + "}"
	}
	return fmt.Sprintf("%#v", v)
}

// span is where a list lies in memory, with its spare room.
type span struct{ begin, end uintptr }

// spans is where all lists of v lie.
func spans(v reflect.Value) []span {
	var l []span
	switch v.Kind() {
	case reflect.Slice:
		if v.Cap() > 0 {
			l = append(l, span{v.Pointer(), v.Pointer() + uintptr(v.Cap())*v.Type().Elem().Size()})
		}
		for i, all := 0, v.Slice(0, v.Cap()); i < all.Len(); i++ {
			l = append(l, spans(all.Index(i))...)
		}
	case reflect.Struct:
		for i := range v.NumField() {
			l = append(l, spans(v.Field(i))...)
		}
	}
	return l
}

// apart holds all lists of some values against each other: no two may share memory.
func apart(t *testing.T, values ...any) {
	t.Helper()
	var l []span
	for _, v := range values {
		l = append(l, spans(reflect.ValueOf(v))...)
	}
	slices.SortFunc(l, func(a, b span) int { return cmp.Compare(a.begin, b.begin) })
	for i := 1; i < len(l); i++ {
		if l[i].begin < l[i-1].end {
			t.Fatalf("two lists share memory")
		}
	}
}

package prog_test

import (
	"fmt"
	"math"
	"reflect"
	"slices"
	"strings"
	"testing"

	"weir/api"
	"weir/litmus"
	"weir/print"
	"weir/prog"
)

func program(t *testing.T, x api.Test) api.Prog {
	t.Helper()
	p, e := prog.Of(x)
	if e != api.OK {
		t.Fatalf("Of(%.300s): %d", fmt.Sprint(x), e)
	}
	return p
}

// 9.3, 9.5, 9.6: the chapter's examples.
func TestExamples(t *testing.T) {
	p := program(t, sb())
	want := api.Prog{
		Threads: [][]api.Op{
			{{Kind: api.OStoreImm, Loc: 0, Imm: 1}, {Kind: api.OLoad, Reg: 0, Loc: 1}},
			{{Kind: api.OStoreImm, Loc: 1, Imm: 1}, {Kind: api.OLoad, Reg: 0, Loc: 0}},
		},
		Regs: [][]string{{"EAX"}, {"EAX"}}, Locs: []string{"x", "y"}, RegInit: [][]int64{{0}, {0}}, LocInit: []int64{0, 0},
	}
	if !sameProg(p, want) {
		t.Errorf("Of SB: %v", p)
	}
	if n := prog.Events(p); n != 6 {
		t.Errorf("Events of SB: %d", n)
	}
	if l := prog.Names(p); !slices.Equal(l, []api.Ref{reg(0, "EAX"), reg(1, "EAX"), loc("x"), loc("y")}) {
		t.Errorf("Names of SB: %v", l)
	}
	if f, e := prog.Run(p); e != api.OK || f.N != 4 || !slices.Equal(f.V[:5], []int64{0, 1, 1, 1, 0}) {
		t.Errorf("Run of SB: %v, %d", f, e)
	}
	x := api.Test{Name: "t", Threads: [][]api.Instr{{{Op: api.OCmpxchg, Loc: "x", Src: "EBX"}}}, Quant: api.Forall, Cond: api.Cond{{Op: api.CTrue}}}
	if p := program(t, x); !slices.Equal(p.Regs[0], []string{"EAX", "EBX"}) || p.Threads[0][0] != (api.Op{Kind: api.OCmpxchg, Reg: 0, Src: 1}) {
		t.Errorf("Of LOCK CMPXCHG [x],EBX: %v", p)
	}
}

// 9.3: numbers of registers and locations of all threads, those that are only set too, written out.
func TestOf(t *testing.T) {
	want := api.Prog{
		Threads: [][]api.Op{
			{{Kind: api.OMovImm, Reg: 0, Imm: 5}, {Kind: api.OMovReg, Reg: 1, Src: 0}, {Kind: api.OLoad, Reg: 2, Loc: 1}},
			{{Kind: api.OStoreImm, Loc: 2, Imm: 6}, {Kind: api.OStoreReg, Loc: 2, Src: 0}, {Kind: api.OFence}},
			{{Kind: api.OXchg, Loc: 1, Reg: 4}, {Kind: api.OCmpxchg, Loc: 3, Src: 1, Reg: 0}, {Kind: api.OXadd, Loc: 3, Reg: 2}},
		},
		Regs:    [][]string{{"EAX", "EBX", "ECX"}, {"R15"}, {"EAX", "EDX", "ESI", "R8", "R9"}},
		Locs:    []string{"only.set", "x", "y", "z"},
		RegInit: [][]int64{{2, 0, 0}, {0}, {0, 0, 0, 3, 0}},
		LocInit: []int64{4, 1, 0, 0},
	}
	if p := program(t, wide()); !sameProg(p, want) {
		t.Errorf("Of: %v; want %v", p, want)
	}
	void := api.Test{Name: "t", Threads: [][]api.Instr{nil, {}}, Quant: api.Exists, Cond: api.Cond{{Op: api.CTrue}}}
	if p := program(t, void); !sameProg(p, api.Prog{Threads: make([][]api.Op, 2), Regs: make([][]string, 2), RegInit: make([][]int64, 2)}) {
		t.Errorf("Of nothing: %v", p)
	}
	x := api.Test{Name: "t", Threads: [][]api.Instr{manyRegs(16)[8:]}, Quant: api.Exists, Cond: api.Cond{{Op: api.CTrue}}}
	if p := program(t, x); !slices.Equal(p.Regs[0], strings.Fields("R10 R11 R12 R13 R14 R15 R8 R9")) {
		t.Errorf("Of registers with numbers: %v", p.Regs)
	}
}

// 9.3, 9.4, 9.5, 9.6, 9.7: unruly tests, whose programs are looked up in their instructions' texts.
func TestUnruly(t *testing.T) {
	roll := dice(93)
	for range 4000 {
		x := randomTest(roll)
		p := program(t, x)
		if want := programOf(x); !sameProg(p, want) {
			t.Fatalf("Of(%.300s): %v; want %v", fmt.Sprint(x), p, want)
		}
		if e := prog.Valid(p); e != api.OK {
			t.Errorf("Valid(%v): %d", p, e)
		}
		if l := prog.Names(p); !slices.Equal(l, textRefs(x)) {
			t.Errorf("Names(%v): %v", p, l)
		}
		checkRun(t, x, p)
		checkBack(t, p)
	}
}

// checkRun holds Run against the instructions' texts, one done behind the other.
func checkRun(t *testing.T, x api.Test, p api.Prog) {
	t.Helper()
	cells := runTest(x)
	want := api.Final{}
	for i, r := range textRefs(x) {
		s, _ := print.Ref(r)
		want.N, want.V[i] = i+1, cells[s]
	}
	if f, e := prog.Run(p); f != want || e != api.OK {
		t.Errorf("Run(%.300s): %v, %d; want %v", fmt.Sprint(p), f, e, want)
	}
}

// checkBack holds Back against its words: it is a test with the same program that sets all, in the order of the names.
func checkBack(t *testing.T, p api.Prog) {
	t.Helper()
	b, e := prog.Back(p)
	if e != api.OK {
		t.Fatalf("Back(%.300s): %d", fmt.Sprint(p), e)
	}
	if q, e := prog.Of(b); e != api.OK || !sameProg(p, q) {
		t.Errorf("Of(Back(%.300s)): %v, %d", fmt.Sprint(p), q, e)
	}
	if q := programOf(b); !sameProg(p, q) {
		t.Errorf("the program of Back(%.300s): %v", fmt.Sprint(p), q)
	}
	rest := api.Test{Name: "t", Inits: b.Inits, Threads: b.Threads, Quant: api.Exists, Cond: api.Cond{{Op: api.CTrue}}}
	if !sameTest(b, rest) {
		t.Errorf("Back(%.300s): %v", fmt.Sprint(p), b)
	}
	var refs []api.Ref
	for _, x := range b.Inits {
		refs = append(refs, x.Ref)
	}
	if !slices.Equal(refs, prog.Names(p)) {
		t.Errorf("Back(%.300s) sets %v", fmt.Sprint(p), refs)
	}
}

// 9.6: each instruction over all small values and those at the ends, with one register and with two.
func TestRunOne(t *testing.T) {
	values := []int64{0, 1, 2, -1, math.MaxInt64, math.MinInt64}
	roll := dice(96)
	for op := 1; op <= 9; op++ {
		for _, src := range []string{"EAX", "EBX"} {
			for n := range len(values) * len(values) * len(values) {
				a, b, x := values[n%6], values[n/6%6], values[n/36]
				in, ok := api.Instr{}, false
				for !ok || in.Op != op {
					in, ok = randomInstr(roll, []string{"EAX", src}, []string{"x", "y"})
				}
				y := api.Test{Name: "t", Inits: []api.Init{{Ref: reg(0, "EBX"), Value: b}, {Ref: loc("x"), Value: x}, {Ref: reg(0, "EAX"), Value: a}, {Ref: loc("y"), Value: x + 1}}, Threads: [][]api.Instr{{in}}, Quant: api.Exists, Cond: api.Cond{{Op: api.CTrue}}}
				checkRun(t, y, program(t, y))
			}
		}
	}
}

// 9.6: what each instruction does, written out: EAX is 1, EBX 2, x 3, y 1.
func TestRunWritten(t *testing.T) {
	for _, c := range []struct {
		text string
		want []int64
	}{
		{"MOV EBX,$-7", []int64{1, -7, 3, 1}},
		{"MOV EBX,EAX", []int64{1, 1, 3, 1}},
		{"MOV EAX,[x]", []int64{3, 2, 3, 1}},
		{"MOV [x],$9", []int64{1, 2, 9, 1}},
		{"MOV [y],EBX", []int64{1, 2, 3, 2}},
		{"MFENCE", []int64{1, 2, 3, 1}},
		{"XCHG [x],EBX", []int64{1, 3, 2, 1}},
		{"LOCK CMPXCHG [x],EBX", []int64{3, 2, 3, 1}},
		{"LOCK CMPXCHG [y],EBX", []int64{1, 2, 3, 2}},
		{"LOCK XADD [x],EBX", []int64{1, 3, 5, 1}},
	} {
		in, _ := litmus.Instruction(c.text)
		x := api.Test{Name: "t", Inits: []api.Init{{Ref: reg(0, "EAX"), Value: 1}, {Ref: reg(0, "EBX"), Value: 2}, {Ref: loc("x"), Value: 3}, {Ref: loc("y"), Value: 1}}, Threads: [][]api.Instr{{in}}, Quant: api.Exists, Cond: api.Cond{{Op: api.CTrue}}}
		if f, e := prog.Run(program(t, x)); e != api.OK || f.N != 4 || !slices.Equal(f.V[:4], c.want) {
			t.Errorf("%s: %v, %d; want %v", c.text, f.V[:4], e, c.want)
		}
	}
}

// 9.6: threads run from the first one on, each to its end; many instructions; values wrap round.
func TestRunOrder(t *testing.T) {
	x := api.Test{Name: "t", Inits: []api.Init{{Ref: loc("x"), Value: math.MaxInt64 - 1}}, Quant: api.Exists, Cond: api.Cond{{Op: api.CTrue}}}
	for k := range 4 {
		x.Threads = append(x.Threads, []api.Instr{{Op: api.OMovImm, Reg: "EDI", Imm: int64(1 + k)}, {Op: api.OXadd, Loc: "x", Reg: "EDI"}, {Op: api.OLoad, Reg: "R9", Loc: "x"}})
	}
	f, e := prog.Run(program(t, x))
	want := []int64{math.MaxInt64 - 1, math.MaxInt64, math.MaxInt64, math.MinInt64 + 1, math.MinInt64 + 1, math.MinInt64 + 4, math.MinInt64 + 4, math.MinInt64 + 8, math.MinInt64 + 8}
	if e != api.OK || f.N != 9 || !slices.Equal(f.V[:9], want) {
		t.Errorf("Run: %v, %d; want %v", f, e, want)
	}
	x.Threads[2] = many(1<<18, func(i int) api.Instr { return api.Instr{Op: api.OMovImm, Reg: "EBX", Imm: int64(i)} })
	if f, e := prog.Run(program(t, x)); e != api.OK || f.V[4] != 1<<18-1 {
		t.Errorf("Run of very many instructions: %v, %d", f, e)
	}
}

// full is a program at all bounds: four threads of eight registers, and sixteen locations.
func full() api.Prog {
	p := api.Prog{Locs: slices.Sorted(slices.Values(someLocs()))}
	for k := range 4 {
		p.Regs = append(p.Regs, slices.Clone(someRegs()[k:k+8]))
		p.RegInit = append(p.RegInit, []int64{1, 2, 3, 4, 5, 6, 7, int64(k)})
		p.Threads = append(p.Threads, []api.Op{{Kind: api.OMovReg, Reg: 7, Src: 6}, {Kind: api.OXadd, Reg: k, Loc: 15}})
	}
	for i := range 16 {
		p.LocInit = append(p.LocInit, int64(100+i))
	}
	return p
}

// 9.4, 9.5, 9.6: 48 values, and programs at the bounds.
func TestFull(t *testing.T) {
	p := full()
	if e := prog.Valid(p); e != api.OK {
		t.Fatalf("Valid: %d", e)
	}
	checkBack(t, p)
	first := prog.First(p)
	if first.N != 48 || first.V[7] != 0 || first.V[31] != 3 || first.V[32] != 100 || first.V[47] != 115 {
		t.Errorf("First: %v", first)
	}
	f, e := prog.Run(p)
	if e != api.OK || f.N != 48 || f.V[7] != 7 || f.V[31] != 7 || f.V[46] != 114 || f.V[47] != 115+1+2+3+4 {
		t.Errorf("Run: %v, %d", f, e)
	}
	for _, op := range []api.Op{{Kind: api.OFence}, {Kind: api.OXadd, Reg: 1, Loc: 1}} {
		for n := 16; n < 60; n++ {
			q := evenProg(p)
			for range n {
				q.Threads[n%4] = append(q.Threads[n%4], op)
			}
			want := api.OK
			if prog.Events(q) != 24+n*weights()[op.Kind] {
				t.Errorf("Events: %d", prog.Events(q))
			}
			if 24+n*weights()[op.Kind] > 64 {
				want = api.ErrEvents
			}
			if e := prog.Valid(q); e != want {
				t.Errorf("Valid with %d events: %d", prog.Events(q), e)
			}
		}
	}
}

// 9.7: fewer watched things, and other places in columns, are the same program; values don't make a test wrong.
func TestSameProgram(t *testing.T) {
	roll := dice(97)
	for range 500 {
		x := randomTest(roll)
		p := program(t, x)
		y := evenTest(x)
		for len(y.Watch) > 0 {
			y.Watch = slices.Delete(y.Watch, 0, 1+roll(len(y.Watch)))
			if q := program(t, y); !sameProg(p, q) {
				t.Errorf("watching %v: %v", y.Watch, q)
			}
		}
		y, err := litmus.Parse(shifted(roll, x))
		if err != nil {
			t.Fatalf("%v: %s", err, shifted(roll, x))
		}
		if q := program(t, y); !sameProg(p, q) {
			t.Errorf("in other rows: %v; want %v", q, p)
		}
		for i := range y.Inits {
			y.Inits[i].Value = pick(roll, someValues())
		}
		for i := range y.Cond {
			if y.Cond[i].Op == api.CIs {
				y.Cond[i].Value = pick(roll, someValues())
			}
		}
		for _, l := range y.Threads {
			for k, in := range l {
				if strings.Contains(forms()[in.Op], "Imm") {
					l[k].Imm = pick(roll, someValues())
				}
			}
		}
		if w, e := prog.Check(y); e != api.OK {
			t.Errorf("other values: %v, %d", w, e)
		}
	}
}

// shifted is a file of a test whose instructions stand in rows as they come.
func shifted(roll func(int) int, x api.Test) string {
	var s strings.Builder
	s.WriteString("X86 " + x.Name + " {")
	for _, i := range x.Inits {
		text, _ := print.Init(i)
		s.WriteString(text + ";")
	}
	s.WriteString("}")
	done := make([]int, len(x.Threads))
	for k := range done {
		s.WriteString([]string{"", "|"}[min(k, 1)] + fmt.Sprintf("P%d", k))
	}
	s.WriteString(";\n")
	for left := true; left; {
		left = false
		for k, l := range x.Threads {
			if k > 0 {
				s.WriteString("|")
			}
			if done[k] < len(l) && roll(2) == 0 {
				text, _ := print.Instr(l[done[k]])
				s.WriteString(text)
				done[k]++
			}
			left = left || done[k] < len(l)
		}
		s.WriteString(";\n")
	}
	y := api.Test{Name: "t", Threads: [][]api.Instr{nil}, Quant: x.Quant, Cond: x.Cond}
	text, _ := print.Text(y)
	return s.String() + strings.TrimPrefix(text, "X86 t\n{\n}\n P0 ;\n")
}

// spare is a list with room behind its end that holds something.
func spare[T any](l []T, rest T) []T {
	full := append(append([]T{}, l...), rest, rest)
	return full[:len(l)]
}

func spareTest(x api.Test) api.Test {
	x.Inits = spare(x.Inits, api.Init{Ref: loc("spare")})
	x.Watch = spare(x.Watch, loc("spare"))
	x.Cond = spare(x.Cond, is(loc("spare"), 1))
	for k, l := range x.Threads {
		x.Threads[k] = spare(l, api.Instr{Op: api.OMovImm, Reg: "ESP"})
	}
	x.Threads = spare(x.Threads, []api.Instr{{Op: 77}})
	return x
}

func spareProg(p api.Prog) api.Prog {
	for k := range p.Threads {
		p.Threads[k] = spare(p.Threads[k], api.Op{Kind: 77})
		p.Regs[k] = spare(p.Regs[k], "spare")
		p.RegInit[k] = spare(p.RegInit[k], 77)
	}
	p.Threads = spare(p.Threads, []api.Op{{Kind: 77}})
	p.Regs = spare(p.Regs, []string{"spare"})
	p.RegInit = spare(p.RegInit, []int64{77})
	p.Locs = spare(p.Locs, "spare")
	p.LocInit = spare(p.LocInit, 77)
	return p
}

// whole is what v and all lists in it hold, their spare room too.
func whole(v reflect.Value) string {
	switch v.Kind() {
	case reflect.Slice:
		s := fmt.Sprint("[", v.Len(), ":")
		for i, all := 0, v.Slice(0, v.Cap()); i < all.Len(); i++ {
			s += whole(all.Index(i)) + " "
		}
		return s + "]"
	case reflect.Struct:
		s := "{"
		for i := range v.NumField() {
			s += whole(v.Field(i)) + " "
		}
		return s + "}"
	}
	return fmt.Sprintf("%#v", v)
}

// R4: what is handed in is not changed, in its spare room neither.
func TestArgumentsStay(t *testing.T) {
	x := spareTest(wide())
	before := whole(reflect.ValueOf(x))
	prog.Check(x)
	p := spareProg(program(t, x))
	if after := whole(reflect.ValueOf(x)); after != before {
		t.Errorf("Check or Of has changed the test: %s; it was %s", after, before)
	}
	before = whole(reflect.ValueOf(p))
	prog.Valid(p)
	prog.Names(p)
	prog.Index(p, loc("x"))
	prog.Events(p)
	prog.First(p)
	prog.Back(p)
	prog.Run(p)
	if after := whole(reflect.ValueOf(p)); after != before {
		t.Errorf("a call has changed the program: %s; it was %s", after, before)
	}
}

// spoil overwrites all that v holds, in the spare room too.
func spoil(v reflect.Value) {
	switch v.Kind() {
	case reflect.Slice:
		for i, all := 0, v.Slice(0, v.Cap()); i < all.Len(); i++ {
			spoil(all.Index(i))
		}
	case reflect.Struct:
		for i := range v.NumField() {
			spoil(v.Field(i))
		}
	case reflect.Int, reflect.Int64:
		v.SetInt(-77)
	case reflect.String:
		v.SetString("spoilt")
	}
}

// R4: answers share no memory with arguments, other answers or lists of their own.
func TestAnswersApart(t *testing.T) {
	x := wide()
	p, q := program(t, x), program(t, x)
	names, more := prog.Names(q), prog.Names(q)
	b, _ := prog.Back(q)
	c, _ := prog.Back(q)
	before := whole(reflect.ValueOf(c))
	spoil(reflect.ValueOf(&p).Elem())
	spoil(reflect.ValueOf(&names).Elem())
	spoil(reflect.ValueOf(&b).Elem())
	if !sameTest(x, wide()) || !sameProg(q, program(t, wide())) || !slices.Equal(more, textRefs(x)) || whole(reflect.ValueOf(c)) != before {
		t.Error("answers share memory with arguments or other answers")
	}
	p = program(t, x)
	b, _ = prog.Back(p)
	apart(t, evenLists(p.Threads), func() {
		for k := range p.Threads {
			p.Threads[k] = append(p.Threads[k], api.Op{Kind: -1})[:len(p.Threads[k])]
		}
	}, func() [][]api.Op { return p.Threads })
	apart(t, evenLists(p.Regs), func() {
		for k := range p.Regs {
			p.Regs[k] = append(p.Regs[k], "spoilt")[:len(p.Regs[k])]
		}
	}, func() [][]string { return p.Regs })
	apart(t, evenLists(p.RegInit), func() {
		for k := range p.RegInit {
			p.RegInit[k] = append(p.RegInit[k], -1)[:len(p.RegInit[k])]
		}
	}, func() [][]int64 { return p.RegInit })
	apart(t, evenLists(b.Threads), func() {
		for k := range b.Threads {
			b.Threads[k] = append(b.Threads[k], api.Instr{Op: -1})[:len(b.Threads[k])]
		}
	}, func() [][]api.Instr { return b.Threads })
}

// apart tells whether lists are what they were when something has been put behind each of them.
func apart[T any](t *testing.T, want [][]T, put func(), now func() [][]T) {
	t.Helper()
	put()
	if got := evenLists(now()); !reflect.DeepEqual(got, want) {
		t.Errorf("lists of one answer share memory: %v; want %v", got, want)
	}
}

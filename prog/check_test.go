package prog_test

import (
	"fmt"
	"math"
	"slices"
	"strings"
	"testing"

	"weir/api"
	"weir/print"
	"weir/prog"
)

// 9.1: each error that there is, the numbers between and around them, and the ends of the type.
func TestClass(t *testing.T) {
	want := func(e api.Errno) int {
		switch e {
		case api.ErrLong, api.ErrDepth, api.ErrThreads, api.ErrEvents, api.ErrLocs, api.ErrRegisters:
			return api.Limit
		case api.ErrTwice, api.ErrUnknown, api.ErrReg, api.ErrOp, 94:
			return api.Ill
		}
		if d := e / 10; d == 4 || d == 5 || d == 6 || d == 7 {
			return api.Syntax
		}
		return 0
	}
	all := []api.Errno{math.MinInt, math.MinInt32, math.MaxInt32, math.MaxInt, 1<<32 + 40, 1<<32 + 90, 256 + 1, 256 + 45, 256 + 92}
	for e := api.Errno(-400); e <= 400; e++ {
		all = append(all, e)
	}
	for _, e := range all {
		if got := prog.Class(e); got != want(e) {
			t.Errorf("Class(%d): %d; want %d", int(e), got, want(e))
		}
	}
}

// 9.1: all texts of up to three bytes of some, and others that look like registers.
func TestRegister(t *testing.T) {
	texts := []string{""}
	for from := 0; len(texts[from]) < 3; from++ {
		for _, c := range []byte("ABCDEIPRSX012345678 9e:.\x00\xff") {
			texts = append(texts, texts[from]+string([]byte{c}))
		}
	}
	texts = append(texts, someLocs()...)
	texts = append(texts, "eax", "Eax", "RAX", "R7", "R08", "R8D", "R100", "R16", "EAX ", " EAX", "EAX\n", "EAX\x00", "EAXX", "EIP", "R15R15", "EAX EBX", strings.Repeat("R", 1<<21))
	count := 0
	for _, s := range append(texts, someRegs()...) {
		if got := prog.Register(s); got != regForm.MatchString(s) {
			t.Errorf("Register(%.80q): %v", s, got)
		} else if got {
			count++
		}
	}
	if count < 32 {
		t.Errorf("registers seen: %d", count)
	}
	for _, s := range someRegs() {
		if !prog.Register(s) {
			t.Errorf("Register(%q): false", s)
		}
	}
}

// checkCheck holds Check and Of's error against the first of all faults; each has a class (W2).
func checkCheck(t *testing.T, what string, x api.Test) {
	t.Helper()
	want := fault{}
	if all := faults(x); len(all) > 0 {
		want = all[0]
	}
	if w, e := prog.Check(x); w != want.w || e != want.e {
		t.Errorf("Check of %s (%.300s): %v, %d; want %v, %d", what, fmt.Sprint(x), w, e, want.w, want.e)
	}
	if want.e != api.OK && prog.Class(want.e) == 0 {
		t.Errorf("%d has no class", want.e)
	}
	p, e := prog.Of(x)
	if e != want.e || e != api.OK && !sameProg(p, api.Prog{}) {
		t.Errorf("Of of %s: %.300s, %d; want %d", what, fmt.Sprint(p), e, want.e)
	}
}

func checkWhere(t *testing.T, what string, x api.Test, w api.Where, e api.Errno) {
	t.Helper()
	if v, f := prog.Check(x); v != w || f != e {
		t.Errorf("Check of %s: %v, %d; want %v, %d", what, v, f, w, e)
	}
	checkCheck(t, what, x)
}

// 9.2: the chapter's examples.
func TestCheckExamples(t *testing.T) {
	checkWhere(t, "SB", sb(), api.Where{}, api.OK)
	x := sb()
	x.Inits = append(x.Inits, api.Init{Ref: reg(2, "EAX"), Value: 1})
	checkWhere(t, "2:EAX=1", x, api.Where{Part: api.WInit, I: 2}, api.ErrUnknown)
	x = sb()
	x.Threads[1] = append(x.Threads[1], api.Instr{Op: api.OMovImm, Reg: "RAX", Imm: 1})
	checkWhere(t, "MOV RAX,$1", x, api.Where{Part: api.WInstr, I: 1, K: 2}, api.ErrReg)
	x = sb()
	x.Cond = api.Cond{is(reg(0, "EBX"), 1)}
	checkWhere(t, "0:EBX=1", x, api.Where{Part: api.WCond}, api.ErrUnknown)
	for e, class := range map[api.Errno]int{api.ErrUnknown: api.Ill, api.ErrEvents: api.Limit, api.ErrSyntax: api.Syntax} {
		if got := prog.Class(e); got != class {
			t.Errorf("Class(%d): %d", e, got)
		}
	}
}

// twist is a change of a test, most often one that makes it wrong.
type twist struct {
	what string
	turn func(*api.Test)
}

// wide is a right test in which each rule has much to look at.
func wide() api.Test {
	return api.Test{
		Name:  "wide",
		Inits: []api.Init{{Ref: loc("x"), Value: 1}, {Ref: reg(0, "EAX"), Value: 2}, {Ref: reg(2, "R8"), Value: 3}, {Ref: loc("only.set"), Value: 4}},
		Threads: [][]api.Instr{
			{{Op: api.OMovImm, Reg: "EAX", Imm: 5}, {Op: api.OMovReg, Reg: "EBX", Src: "EAX"}, {Op: api.OLoad, Reg: "ECX", Loc: "x"}},
			{{Op: api.OStoreImm, Loc: "y", Imm: 6}, {Op: api.OStoreReg, Loc: "y", Src: "R15"}, {Op: api.OFence}},
			{{Op: api.OXchg, Loc: "x", Reg: "R9"}, {Op: api.OCmpxchg, Loc: "z", Src: "EDX"}, {Op: api.OXadd, Loc: "z", Reg: "ESI"}},
		},
		Watch: []api.Ref{loc("x"), reg(2, "EAX"), reg(1, "R15"), loc("only.set")},
		Quant: api.Forall,
		Cond:  api.Cond{is(loc("x"), 1), is(reg(2, "R8"), 3), {Op: api.COr, A: 0, B: 1}, is(reg(0, "EBX"), 5), {Op: api.CAnd, A: 2, B: 3}},
	}
}

func many(n int, of func(i int) api.Instr) []api.Instr {
	var l []api.Instr
	for i := range n {
		l = append(l, of(i))
	}
	return l
}

// manyRegs is instructions that name the first n registers.
func manyRegs(n int) []api.Instr {
	return many(n, func(i int) api.Instr { return api.Instr{Op: api.OMovImm, Reg: someRegs()[i]} })
}

// manySets is n settings of locations.
func manySets(n int) []api.Init {
	var l []api.Init
	for i := range n {
		l = append(l, api.Init{Ref: loc(fmt.Sprint("l", i))})
	}
	return l
}

func wrongNames() []string {
	return []string{"", "1", "x-", "a b", "x\n", strings.Repeat("n", 65), "[x]"}
}

func wrongThreads() []int {
	return []int{-2, -3, 3, 4, 9999, 10000, math.MinInt, math.MaxInt, 1 << 32, -1 << 32, 1<<32 - 1}
}

// twists is changes that turn one thing of a test wrong, or leave it right, in all parts.
func twists() []twist {
	var all []twist
	add := func(what string, turn func(*api.Test)) { all = append(all, twist{what, turn}) }
	add("nothing", func(x *api.Test) {})
	add("no threads", func(x *api.Test) { x.Threads = nil })
	add("a thread more", func(x *api.Test) { x.Threads = append(x.Threads, nil) })
	add("two threads more", func(x *api.Test) { x.Threads = append(x.Threads, nil, nil) })
	add("a thread less", func(x *api.Test) { x.Threads = x.Threads[:max(len(x.Threads), 1)-1] })
	for _, n := range []int{12, 13, 60, 61, 200} {
		add(fmt.Sprint(n, " settings more"), func(x *api.Test) { x.Inits = append(x.Inits, manySets(n)...) })
	}
	for _, k := range wrongThreads() {
		add(fmt.Sprint("a setting of ", k), func(x *api.Test) { x.Inits[2].Ref.Thread = k })
		add(fmt.Sprint("a watched thing of ", k), func(x *api.Test) { x.Watch[1].Thread = k })
		add(fmt.Sprint("a node of ", k), func(x *api.Test) { x.Cond[1].Ref.Thread = k })
	}
	for _, s := range append(wrongNames(), "RAX", "eax", "x") {
		add("a register set: "+s, func(x *api.Test) { x.Inits[1].Ref.Name = s })
		add("a location set: "+s, func(x *api.Test) { x.Inits[3].Ref.Name = s })
		add("watched: "+s, func(x *api.Test) { x.Watch[2].Name = s })
		add("asked for: "+s, func(x *api.Test) { x.Cond[3].Ref.Name = s })
		add("the name: "+s, func(x *api.Test) { x.Name = s })
	}
	add("a setting twice", func(x *api.Test) { x.Inits = append(x.Inits, x.Inits[1]) })
	add("a setting twice, with another value", func(x *api.Test) { x.Inits = append(x.Inits, api.Init{Ref: loc("x"), Value: 77}) })
	add("a register of another thread set", func(x *api.Test) { x.Inits = append(x.Inits, api.Init{Ref: reg(1, "EAX")}) })
	return slices.Concat(all, instrTwists(), restTwists())
}

func instrTwists() []twist {
	var all []twist
	at := func(what string, i, k int, turn func(*api.Instr)) {
		all = append(all, twist{fmt.Sprint(what, " at ", i, ", ", k), func(x *api.Test) {
			if i < len(x.Threads) && k < len(x.Threads[i]) {
				turn(&x.Threads[i][k])
			}
		}})
	}
	for i := range 3 {
		for k := range 3 {
			for _, op := range []int{-1, 0, 10, math.MaxInt} {
				at(fmt.Sprint("Op ", op), i, k, func(in *api.Instr) { in.Op = op })
			}
			for _, s := range []string{"", "RAX", "EBX"} {
				at("Reg "+s, i, k, func(in *api.Instr) { in.Reg = s })
				at("Src "+s, i, k, func(in *api.Instr) { in.Src = s })
			}
			for _, s := range []string{"", "1", "w"} {
				at("Loc "+s, i, k, func(in *api.Instr) { in.Loc = s })
			}
			at("Imm 0", i, k, func(in *api.Instr) { in.Imm = 0 })
			at("Imm", i, k, func(in *api.Instr) { in.Imm = math.MinInt64 })
		}
	}
	return all
}

func restTwists() []twist {
	var all []twist
	add := func(what string, turn func(*api.Test)) { all = append(all, twist{what, turn}) }
	for k := range 3 {
		for _, n := range []int{5, 8, 9, 16} {
			add(fmt.Sprint(n, " registers of ", k), func(x *api.Test) {
				if k < len(x.Threads) {
					x.Threads[k] = append(x.Threads[k], manyRegs(n)...)
				}
			})
		}
	}
	for _, n := range []int{50, 51, 52, 53, 54, 55} {
		add(fmt.Sprint(n, " fences"), func(x *api.Test) {
			if len(x.Threads) > 0 {
				x.Threads[0] = append(x.Threads[0], many(n, func(int) api.Instr { return api.Instr{Op: api.OFence} })...)
			}
		})
	}
	add("nothing watched", func(x *api.Test) { x.Watch = nil })
	add("an unknown location watched", func(x *api.Test) { x.Watch = append(x.Watch, loc("unknown")) })
	add("a location watched again", func(x *api.Test) { x.Watch = append(x.Watch, loc("x")) })
	add("no condition", func(x *api.Test) { x.Cond = nil })
	add("true", func(x *api.Test) { x.Cond = api.Cond{{Op: api.CTrue}} })
	add("no node", func(x *api.Test) { x.Cond[4].Op = 6 })
	add("a node that is no part", func(x *api.Test) { x.Cond[4].A = 1 })
	add("a deep condition", func(x *api.Test) {
		for i := range 65 {
			x.Cond = append(x.Cond, api.Node{Op: api.CNot, A: 4 + i})
		}
	})
	add("a long condition", func(x *api.Test) {
		for len(x.Cond) < 1025 {
			x.Cond = append(x.Cond, is(loc("x"), 1), api.Node{Op: api.CAnd, A: len(x.Cond) - 1, B: len(x.Cond)})
		}
	})
	for _, q := range []int{0, 1, 2, 3, 4, -1, math.MaxInt, math.MinInt} {
		add(fmt.Sprint("Quant ", q), func(x *api.Test) { x.Quant = q })
	}
	for _, s := range []string{"", `"`, "\n", "a\nb", `a"b`, "'", "\r\t\x00\xff", "é"} {
		add("Doc "+s, func(x *api.Test) { x.Doc = s })
	}
	return all
}

// turned is a test with a change, or false, if it can't be made of it.
func turned(x api.Test, w twist) (y api.Test, ok bool) {
	defer func() { ok = recover() == nil }()
	y = evenTest(x)
	w.turn(&y)
	return y, true
}

// 9.2: each thing that can be wrong, and each pair of them: the first that applies is told.
func TestCheckTwists(t *testing.T) {
	all := twists()
	seen := map[api.Errno]int{}
	for _, a := range all {
		x, _ := turned(wide(), a)
		checkCheck(t, a.what, x)
		_, e := prog.Check(x)
		seen[e]++
		for _, b := range all {
			if y, ok := turned(x, b); ok {
				checkCheck(t, a.what+" and "+b.what, y)
			}
		}
	}
	for _, e := range []api.Errno{api.OK, api.ErrThreads, api.ErrLong, api.ErrUnknown, api.ErrReg, api.ErrName, api.ErrTwice, api.ErrOp, api.ErrRegisters, api.ErrLocs, api.ErrEvents, api.ErrCond, api.ErrDepth, api.ErrToken} {
		if seen[e] == 0 {
			t.Errorf("no test is refused with %d", e)
		}
	}
}

// 9.2: unruly tests, right ones and such with some changes.
func TestCheckUnruly(t *testing.T) {
	roll := dice(9)
	all := twists()
	for range 3000 {
		x := randomTest(roll)
		if w, e := prog.Check(x); w != (api.Where{}) || e != api.OK {
			t.Fatalf("Check(%.300s): %v, %d", fmt.Sprint(x), w, e)
		}
		for range roll(4) {
			if y, ok := turned(x, pick(roll, all)); ok {
				x = y
			}
		}
		checkCheck(t, "an unruly test", x)
	}
}

// 9.2: the parts in which a test is wrong, each said by itself.
func TestCheckPlaces(t *testing.T) {
	for _, c := range []struct {
		what string
		turn func(*api.Test)
		w    api.Where
		e    api.Errno
	}{
		{"no threads", func(x *api.Test) { x.Threads = nil }, api.Where{Part: api.WThread}, api.ErrThreads},
		{"5 threads", func(x *api.Test) { x.Threads = make([][]api.Instr, 5) }, api.Where{Part: api.WThread, I: 4}, api.ErrThreads},
		{"7 threads", func(x *api.Test) { x.Threads = make([][]api.Instr, 7) }, api.Where{Part: api.WThread, I: 4}, api.ErrThreads},
		{"64 settings", func(x *api.Test) { x.Inits = manySets(64) }, api.Where{Part: api.WThread}, api.ErrLocs},
		{"65 settings", func(x *api.Test) { x.Inits = manySets(65) }, api.Where{Part: api.WInit, I: 64}, api.ErrLong},
		{"65 settings, all of nothing", func(x *api.Test) { x.Inits = make([]api.Init, 65) }, api.Where{Part: api.WInit, I: 64}, api.ErrLong},
		{"-2:EAX set", func(x *api.Test) { x.Inits[1].Ref.Thread = -2 }, api.Where{Part: api.WInit, I: 1}, api.ErrUnknown},
		{"3:RAX set", func(x *api.Test) { x.Inits[1].Ref = reg(3, "RAX") }, api.Where{Part: api.WInit, I: 1}, api.ErrUnknown},
		{"2:RAX set", func(x *api.Test) { x.Inits[1].Ref = reg(2, "RAX") }, api.Where{Part: api.WInit, I: 1}, api.ErrReg},
		{"a location without a name", func(x *api.Test) { x.Inits[3].Ref.Name = "" }, api.Where{Part: api.WInit, I: 3}, api.ErrName},
		{"a setting twice", func(x *api.Test) { x.Inits[3].Ref = loc("x") }, api.Where{Part: api.WInit, I: 3}, api.ErrTwice},
		{"no Op", func(x *api.Test) { x.Threads[2][1] = api.Instr{} }, api.Where{Part: api.WInstr, I: 2, K: 1}, api.ErrOp},
		{"a fence of EAX", func(x *api.Test) { x.Threads[1][2].Reg = "EAX" }, api.Where{Part: api.WInstr, I: 1, K: 2}, api.ErrOp},
		{"CMPXCHG with EAX in Reg", func(x *api.Test) { x.Threads[2][1].Reg = "EAX" }, api.Where{Part: api.WInstr, I: 2, K: 1}, api.ErrOp},
		{"a wrong register and a wrong location", func(x *api.Test) { x.Threads[0][2].Reg, x.Threads[0][2].Loc = "x", "" }, api.Where{Part: api.WInstr, K: 2}, api.ErrReg},
		{"a wrong location", func(x *api.Test) { x.Threads[0][2].Loc = "" }, api.Where{Part: api.WInstr, K: 2}, api.ErrName},
		{"9 registers of the thread 1", func(x *api.Test) { x.Threads[1] = append(x.Threads[1], manyRegs(9)...) }, api.Where{Part: api.WThread, I: 1}, api.ErrRegisters},
		{"9 registers, EAX by CMPXCHG", func(x *api.Test) {
			x.Threads[1] = append(manyRegs(9)[1:], api.Instr{Op: api.OCmpxchg, Loc: "x", Src: "ESP"})
		}, api.Where{Part: api.WThread, I: 1}, api.ErrRegisters},
		{"9 registers, one of them set", func(x *api.Test) {
			x.Threads[2] = manyRegs(8)
			x.Watch, x.Cond = nil, api.Cond{{Op: api.CTrue}}
		}, api.Where{Part: api.WThread, I: 2}, api.ErrRegisters},
		{"17 locations", func(x *api.Test) { x.Inits = append(x.Inits, manySets(13)...) }, api.Where{Part: api.WThread}, api.ErrLocs},
		{"16 locations", func(x *api.Test) { x.Inits = append(x.Inits, manySets(12)...) }, api.Where{}, api.OK},
		{"nothing known watched", func(x *api.Test) { x.Watch[1] = reg(0, "EDX") }, api.Where{Part: api.WWatch, I: 1}, api.ErrUnknown},
		{"a register of a location's kind watched", func(x *api.Test) { x.Watch[3] = reg(-2, "x") }, api.Where{Part: api.WWatch, I: 3}, api.ErrUnknown},
		{"something watched twice", func(x *api.Test) { x.Watch[3] = x.Watch[1] }, api.Where{Part: api.WWatch, I: 3}, api.ErrTwice},
		{"no condition", func(x *api.Test) { x.Cond = nil }, api.Where{Part: api.WCond}, api.ErrCond},
		{"a wrong last node and an unknown one", func(x *api.Test) { x.Cond[4].B, x.Cond[1].Ref = 1, loc("unknown") }, api.Where{Part: api.WCond}, api.ErrCond},
		{"an unknown register in the condition", func(x *api.Test) { x.Cond[3].Ref = reg(1, "EBX") }, api.Where{Part: api.WCond, I: 3}, api.ErrUnknown},
		{"Quant 0", func(x *api.Test) { x.Quant = 0 }, api.Where{Part: api.WCond}, api.ErrOp},
		{"no Name", func(x *api.Test) { x.Name = "" }, api.Where{Part: api.WInit}, api.ErrName},
		{"a Name and a Doc that are wrong", func(x *api.Test) { x.Name, x.Doc = "1", "\n" }, api.Where{Part: api.WInit}, api.ErrName},
		{"a Doc of two lines", func(x *api.Test) { x.Doc = "a\nb" }, api.Where{Part: api.WInit}, api.ErrToken},
	} {
		x := wide()
		c.turn(&x)
		checkWhere(t, c.what, x, c.w, c.e)
	}
}

// 9.2: events of each kind, up to the bound and one beyond; what makes none may stand as often as one likes.
func TestCheckEvents(t *testing.T) {
	for op := 1; op <= 9; op++ {
		in, ok := api.Instr{}, false
		for roll := dice(uint64(op)); !ok || in.Op != op; {
			in, ok = randomInstr(roll, []string{"EAX"}, []string{"x"})
		}
		for n := 25; n <= 70; n++ {
			x := api.Test{Name: "t", Inits: []api.Init{{Ref: loc("x")}}, Threads: [][]api.Instr{nil, many(n, func(int) api.Instr { return in })}, Quant: api.Exists, Cond: api.Cond{{Op: api.CTrue}}}
			want := api.OK
			if 1+n*weights()[op] > 64 {
				want = api.ErrEvents
			}
			w := api.Where{}
			if want != api.OK {
				w = api.Where{Part: api.WThread}
			}
			checkWhere(t, fmt.Sprint(n, " of ", in), x, w, want)
		}
	}
	x := sb()
	x.Threads[1] = append(x.Threads[1], many(1<<17, func(i int) api.Instr { return api.Instr{Op: api.OMovImm, Reg: "EBX", Imm: int64(i)} })...)
	checkWhere(t, "very many instructions without events", x, api.Where{}, api.OK)
	x.Threads[1] = append(x.Threads[1], many(1<<15, func(i int) api.Instr { return api.Instr{Op: api.OXadd, Reg: "EBX", Loc: fmt.Sprint("l", i)} })...)
	if w, e := prog.Check(x); w != (api.Where{Part: api.WThread}) || e != api.ErrLocs {
		t.Errorf("many locations: %v, %d", w, e)
	}
}

// 8.4, 9.2: a test of which nothing is wrong can be written, if it is not too long; what is wrong with others need not keep them from it.
func TestCheckedCanBeWritten(t *testing.T) {
	roll := dice(84)
	for range 2000 {
		x := randomTest(roll)
		if _, e := print.Text(x); e != api.OK {
			t.Errorf("Text(%.300s): %d", fmt.Sprint(x), e)
		}
	}
	for _, a := range twists() {
		x, _ := turned(wide(), a)
		_, e := prog.Check(x)
		if _, f := print.Text(x); e == api.OK && f != api.OK {
			t.Errorf("Text of a test with %s: %d", a.what, f)
		}
	}
	x := sb()
	x.Doc = strings.Repeat("d", api.MaxText)
	checkWhere(t, "a long Doc", x, api.Where{}, api.OK)
	if _, e := print.Text(x); e != api.ErrLong {
		t.Errorf("Text of a test with a long Doc: %d", e)
	}
}

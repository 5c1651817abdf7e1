package prog_test

import (
	"fmt"
	"math"
	"slices"
	"strings"
	"testing"

	"weir/api"
	"weir/prog"
)

// validWords is the first thing that is wrong with a program, as the chapter's words have it.
func validWords(p api.Prog) api.Errno {
	n := len(p.Threads)
	if n < 1 || n > 4 {
		return api.ErrThreads
	}
	if len(p.Regs) != n || len(p.RegInit) != n {
		return api.ErrReg
	}
	events, tooMany := len(p.Locs), false
	for k, l := range p.Regs {
		if len(l) != len(p.RegInit[k]) || !strictly(l) || slices.ContainsFunc(l, func(s string) bool { return !regForm.MatchString(s) }) {
			return api.ErrReg
		}
		tooMany = tooMany || len(l) > 8
	}
	if tooMany {
		return api.ErrRegisters
	}
	if len(p.Locs) != len(p.LocInit) || !strictly(p.Locs) || slices.ContainsFunc(p.Locs, func(s string) bool { return !isName(s) }) {
		return api.ErrName
	}
	if len(p.Locs) > 16 {
		return api.ErrLocs
	}
	for k, l := range p.Threads {
		makeable := allOps(p.Regs[k], p.Locs)
		for _, op := range l {
			plain := op
			if op.Kind == api.OMovImm || op.Kind == api.OStoreImm {
				plain.Imm = 0
			}
			if !makeable[plain] {
				return api.ErrOp
			}
			events += weights()[op.Kind]
		}
	}
	if events > 64 {
		return api.ErrEvents
	}
	return api.OK
}

func strictly(l []string) bool {
	return slices.Equal(l, slices.Compact(slices.Sorted(slices.Values(l))))
}

// allOps is all instructions over some registers and locations, but for their Imm: each Op with each name in its fields.
func allOps(regs, locs []string) map[api.Op]bool {
	ops := map[api.Op]bool{}
	eax := slices.Index(regs, "EAX")
	for kind := 1; kind <= 9; kind++ {
		list := []api.Op{{Kind: kind}}
		for _, field := range strings.Fields(forms()[kind]) {
			var next []api.Op
			for _, op := range list {
				switch field {
				case "Reg":
					for i := range regs {
						op.Reg = i
						next = append(next, op)
					}
				case "Src":
					for i := range regs {
						op.Src = i
						next = append(next, op)
					}
				case "Loc":
					for i := range locs {
						op.Loc = i
						next = append(next, op)
					}
				case "Imm":
					next = append(next, op)
				}
			}
			list = next
		}
		for _, op := range list {
			if kind == api.OCmpxchg {
				op.Reg = eax
			}
			if kind != api.OCmpxchg || eax >= 0 {
				ops[op] = true
			}
		}
	}
	return ops
}

// checkValid holds Valid against the words, and Back and Run, which refuse what it refuses.
func checkValid(t *testing.T, what string, p api.Prog) {
	t.Helper()
	want := validWords(p)
	if e := prog.Valid(p); e != want {
		t.Errorf("Valid of %s (%.300s): %d; want %d", what, fmt.Sprint(p), e, want)
	}
	b, e := prog.Back(p)
	if e != want || e != api.OK && !sameTest(b, api.Test{}) {
		t.Errorf("Back of %s: %v, %d; want %d", what, b, e, want)
	}
	f, e := prog.Run(p)
	if e != want || e != api.OK && f != (api.Final{}) {
		t.Errorf("Run of %s: %v, %d; want %d", what, f, e, want)
	}
	checkLoose(t, p)
}

// checkLoose holds Names, Index, Events and First, which any program has, against its lists.
func checkLoose(t *testing.T, p api.Prog) {
	t.Helper()
	var names []api.Ref
	first := api.Final{}
	add := func(r api.Ref, values []int64, i int) {
		if first.N < 48 {
			if i < len(values) {
				first.V[first.N] = values[i]
			}
			first.N++
		}
		names = append(names, r)
	}
	for k, l := range p.Regs {
		values := append(append([][]int64{}, p.RegInit...), make([][]int64, k+1)...)[k]
		for i, s := range l {
			add(reg(k, s), values, i)
		}
	}
	for i, s := range p.Locs {
		add(loc(s), p.LocInit, i)
	}
	if l := prog.Names(p); !slices.Equal(l, names) {
		t.Errorf("Names(%.300s): %v; want %v", fmt.Sprint(p), l, names)
	}
	if f := prog.First(p); f != first {
		t.Errorf("First(%.300s): %v; want %v", fmt.Sprint(p), f, first)
	}
	events := len(p.Locs)
	for _, l := range p.Threads {
		for _, op := range l {
			if op.Kind >= 0 && op.Kind <= 9 {
				events += weights()[op.Kind]
			}
		}
	}
	if n := prog.Events(p); n != events {
		t.Errorf("Events(%.300s): %d; want %d", fmt.Sprint(p), n, events)
	}
	others := []api.Ref{{}, loc(""), loc("unknown"), loc("EAX"), reg(-2, "x"), reg(0, "x"), reg(0, "EAX"), reg(3, "EAX"), reg(4, "EAX"), reg(math.MaxInt, "EAX"), reg(math.MinInt, "EAX")}
	for _, r := range append(others, names...) {
		want := slices.Index(names, r)
		if i, ok := prog.Index(p, r); ok != (want >= 0) || i != max(want, 0) {
			t.Errorf("Index(%.300s, %v): %d, %v; want %d", fmt.Sprint(p), r, i, ok, want)
		}
	}
}

// wideProg is a right program in which each rule has much to look at.
func wideProg(t *testing.T) api.Prog { return program(t, wide()) }

type progTwist struct {
	what string
	turn func(*api.Prog)
}

func progTwists() []progTwist {
	var all []progTwist
	add := func(what string, turn func(*api.Prog)) { all = append(all, progTwist{what, turn}) }
	add("nothing", func(p *api.Prog) {})
	add("no threads", func(p *api.Prog) { p.Threads = nil })
	add("nothing at all", func(p *api.Prog) { *p = api.Prog{} })
	add("a thread more", func(p *api.Prog) { p.Threads = append(p.Threads, nil) })
	add("a whole thread more", func(p *api.Prog) {
		p.Threads, p.Regs, p.RegInit = append(p.Threads, nil), append(p.Regs, nil), append(p.RegInit, nil)
	})
	add("two whole threads more", func(p *api.Prog) {
		p.Threads, p.Regs, p.RegInit = append(p.Threads, nil, nil), append(p.Regs, nil, nil), append(p.RegInit, nil, nil)
	})
	add("a whole thread less", func(p *api.Prog) { p.Threads, p.Regs, p.RegInit = p.Threads[1:], p.Regs[1:], p.RegInit[1:] })
	add("registers of no thread", func(p *api.Prog) { p.Regs = append(p.Regs, nil) })
	add("no registers of a thread", func(p *api.Prog) { p.Regs = p.Regs[:2] })
	add("values of no thread", func(p *api.Prog) { p.RegInit = append(p.RegInit, nil) })
	add("no values of a thread", func(p *api.Prog) { p.RegInit = p.RegInit[:2] })
	for _, s := range []string{"", "RAX", "eax", "EAX", "EBX", "R9", "x"} {
		add("a register "+s, func(p *api.Prog) { p.Regs[0][1] = s })
		add("a last register "+s, func(p *api.Prog) { p.Regs[2][4] = s })
		add("a register more "+s, func(p *api.Prog) { p.Regs[1], p.RegInit[1] = append(p.Regs[1], s), append(p.RegInit[1], 0) })
		add("a register ahead "+s, func(p *api.Prog) {
			p.Regs[1], p.RegInit[1] = append([]string{s}, p.Regs[1]...), append(p.RegInit[1], 0)
		})
	}
	for k := range 3 {
		for _, n := range []int{0, 1, 7, 8, 9, 16} {
			add(fmt.Sprint(n, " registers of ", k), func(p *api.Prog) { p.Regs[k], p.RegInit[k] = someRegs()[:n], make([]int64, n) })
			add(fmt.Sprint(n, " last registers of ", k), func(p *api.Prog) { p.Regs[k], p.RegInit[k] = someRegs()[16-n:], make([]int64, n) })
		}
		add(fmt.Sprint("a value more of ", k), func(p *api.Prog) { p.RegInit[k] = append(p.RegInit[k], 1) })
		add(fmt.Sprint("a value less of ", k), func(p *api.Prog) { p.RegInit[k] = p.RegInit[k][1:] })
	}
	return slices.Concat(all, locTwists(), opTwists())
}

func locTwists() []progTwist {
	var all []progTwist
	add := func(what string, turn func(*api.Prog)) { all = append(all, progTwist{what, turn}) }
	for _, s := range append(wrongNames(), "only.set", "x", "y", "zz", "a", "EAX") {
		add("a first location "+s, func(p *api.Prog) { p.Locs[0] = s })
		add("a location "+s, func(p *api.Prog) { p.Locs[2] = s })
		add("a last location "+s, func(p *api.Prog) { p.Locs[3] = s })
	}
	add("a location's value more", func(p *api.Prog) { p.LocInit = append(p.LocInit, 1) })
	add("a location's value less", func(p *api.Prog) { p.LocInit = p.LocInit[1:] })
	for _, n := range []int{0, 1, 3, 15, 16, 17, 60, 64, 65} {
		add(fmt.Sprint(n, " locations"), func(p *api.Prog) {
			p.Locs, p.LocInit = nil, make([]int64, n)
			for i := range n {
				p.Locs = append(p.Locs, fmt.Sprintf("l%02d", i))
			}
		})
	}
	return all
}

func opTwists() []progTwist {
	var all []progTwist
	numbers := []int{-1, 0, 1, 2, 3, 4, 5, 7, 8, 16, math.MinInt, math.MaxInt}
	for i := range 3 {
		for k := range 3 {
			at := func(what string, turn func(*api.Op)) {
				all = append(all, progTwist{fmt.Sprint(what, " at ", i, ", ", k), func(p *api.Prog) { turn(&p.Threads[i][k]) }})
			}
			for _, n := range append(numbers, 6, 9, 10) {
				at(fmt.Sprint("Kind ", n), func(op *api.Op) { op.Kind = n })
			}
			for _, n := range numbers {
				at(fmt.Sprint("Reg ", n), func(op *api.Op) { op.Reg = n })
				at(fmt.Sprint("Src ", n), func(op *api.Op) { op.Src = n })
				at(fmt.Sprint("Loc ", n), func(op *api.Op) { op.Loc = n })
			}
			at("Imm 0", func(op *api.Op) { op.Imm = 0 })
			at("Imm 1", func(op *api.Op) { op.Imm = 1 })
			at("Imm below 0", func(op *api.Op) { op.Imm = math.MinInt64 })
		}
	}
	for _, n := range []int{50, 51, 52, 53, 54, 55} {
		all = append(all, progTwist{fmt.Sprint(n, " fences"), func(p *api.Prog) {
			for range n {
				p.Threads[0] = append(p.Threads[0], api.Op{Kind: api.OFence})
			}
		}})
	}
	return all
}

// turnedProg is a program with a change, or false, if it can't be made of it.
func turnedProg(p api.Prog, w progTwist) (q api.Prog, ok bool) {
	defer func() { ok = recover() == nil }()
	q = evenProg(p)
	w.turn(&q)
	return q, true
}

// 9.4, 9.5, 9.6: each thing that can be wrong with a program, and pairs of them.
func TestValidTwists(t *testing.T) {
	all := progTwists()
	roll := dice(94)
	seen := map[api.Errno]int{}
	for _, a := range all {
		p, _ := turnedProg(wideProg(t), a)
		checkValid(t, a.what, p)
		seen[prog.Valid(p)]++
		for range 40 {
			b := pick(roll, all)
			if q, ok := turnedProg(p, b); ok {
				checkValid(t, a.what+" and "+b.what, q)
			}
		}
	}
	for _, e := range []api.Errno{api.OK, api.ErrThreads, api.ErrReg, api.ErrRegisters, api.ErrName, api.ErrLocs, api.ErrOp, api.ErrEvents} {
		if seen[e] == 0 {
			t.Errorf("no program is refused with %d", e)
		}
	}
}

// 9.4: all instructions with small numbers, over registers with and without EAX, and over none.
func TestValidOps(t *testing.T) {
	for _, regs := range [][]string{nil, {"EAX"}, {"EBX"}, {"EAX", "EBX"}, {"EBX", "ECX"}, {"EAX", "EBP", "R8"}} {
		for _, locs := range [][]string{nil, {"x"}, {"x", "y"}} {
			p := api.Prog{Threads: [][]api.Op{nil, {{}}}, Regs: [][]string{{"EAX", "EBX", "ECX", "EDX"}, regs}, Locs: locs, RegInit: [][]int64{make([]int64, 4), make([]int64, len(regs))}, LocInit: make([]int64, len(locs))}
			for n := range 11 * 5 * 5 * 4 * 2 {
				p.Threads[1][0] = api.Op{Kind: n % 11, Reg: n/11%5 - 1, Src: n/55%5 - 1, Loc: n/275%4 - 1, Imm: int64(n / 1100)}
				checkValid(t, "an instruction", p)
			}
		}
	}
}

// 9.4: the first that applies, said by itself.
func TestValidOrder(t *testing.T) {
	for _, c := range []struct {
		what string
		turn func(*api.Prog)
		want api.Errno
	}{
		{"a wrong register behind too many", func(p *api.Prog) {
			p.Regs[0], p.RegInit[0] = someRegs(), make([]int64, 16)
			p.Regs[2][0] = "RAX"
		}, api.ErrReg},
		{"too many registers, and a wrong location", func(p *api.Prog) {
			p.Regs[0], p.RegInit[0] = someRegs(), make([]int64, 16)
			p.Locs[0] = ""
		}, api.ErrRegisters},
		{"a wrong location behind too many", func(p *api.Prog) {
			p.Locs, p.LocInit = append(manyNames(16), "z z"), make([]int64, 17)
		}, api.ErrName},
		{"too many locations, and no instruction", func(p *api.Prog) {
			p.Locs, p.LocInit = manyNames(17), make([]int64, 17)
			p.Threads[0][0].Kind = 0
		}, api.ErrLocs},
		{"no instruction behind too many events", func(p *api.Prog) {
			p.Threads[0] = make([]api.Op, 100)
			for i := range p.Threads[0] {
				p.Threads[0][i].Kind = api.OFence
			}
			p.Threads[2][2].Reg = 5
		}, api.ErrOp},
		{"locations in a falling order", func(p *api.Prog) { slices.Reverse(p.Locs) }, api.ErrName},
		{"registers in a falling order", func(p *api.Prog) { slices.Reverse(p.Regs[0]) }, api.ErrReg},
		{"CMPXCHG of another register", func(p *api.Prog) { p.Threads[2][1].Reg = 1 }, api.ErrOp},
		{"CMPXCHG without EAX", func(p *api.Prog) { p.Regs[2][0] = "EBP" }, api.ErrOp},
		{"a number below 0", func(p *api.Prog) { p.Threads[0][1].Src = -1 }, api.ErrOp},
		{"a register that is not named", func(p *api.Prog) { p.Regs[1], p.RegInit[1] = []string{"R15", "R8"}, []int64{7, 8} }, api.OK},
	} {
		p := wideProg(t)
		c.turn(&p)
		if e := prog.Valid(p); e != c.want {
			t.Errorf("Valid of %s: %d; want %d", c.what, e, c.want)
		}
		checkValid(t, c.what, p)
	}
}

func manyNames(n int) []string {
	var l []string
	for i := range n {
		l = append(l, fmt.Sprintf("l%02d", i))
	}
	return l
}

// 9.5: programs of any lists: names that stand twice, values that are missing or too many, more than 48 names.
func TestLoosePrograms(t *testing.T) {
	roll := dice(95)
	names := []string{"", "EAX", "EBX", "x", "y", "1", "\n"}
	texts := func(n int) []string {
		var l []string
		for range n {
			l = append(l, pick(roll, names))
		}
		return l
	}
	values := func(n int) []int64 {
		var l []int64
		for i := range n {
			l = append(l, int64(1+i))
		}
		return l
	}
	for range 3000 {
		most := []int{4, 20, 60}[roll(3)]
		p := api.Prog{Locs: texts(roll(most)), LocInit: values(roll(most))}
		for range roll(7) {
			p.Regs = append(p.Regs, texts(roll(most)))
		}
		for range roll(7) {
			p.RegInit = append(p.RegInit, values(roll(most)))
		}
		for range roll(7) {
			var l []api.Op
			for range roll(most) {
				l = append(l, api.Op{Kind: roll(13) - 2, Reg: roll(9) - 4, Loc: roll(9) - 4})
			}
			p.Threads = append(p.Threads, l)
		}
		checkLoose(t, p)
	}
	checkLoose(t, api.Prog{})
	checkLoose(t, api.Prog{Locs: make([]string, 1<<9), LocInit: values(1 << 10)})
	checkLoose(t, api.Prog{Regs: make([][]string, 1<<9), RegInit: [][]int64{values(3)}})
	big := api.Prog{Regs: [][]string{make([]string, 1<<20)}, Locs: make([]string, 1<<20), LocInit: values(1)}
	if l, f := prog.Names(big), prog.First(big); len(l) != 1<<21 || f != (api.Final{N: 48}) || prog.Events(big) != 1<<20 {
		t.Errorf("a great program: %d names, %v, %d events", len(l), f, prog.Events(big))
	}
	if i, ok := prog.Index(big, loc("")); i != 1<<20 || !ok {
		t.Errorf("Index in a great program: %d, %v", i, ok)
	}
}

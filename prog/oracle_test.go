package prog_test

import (
	"fmt"
	"reflect"
	"regexp"
	"slices"
	"strconv"
	"strings"

	"weir/api"
	"weir/cond"
	"weir/print"
)

func loc(name string) api.Ref { return api.Ref{Thread: -1, Name: name} }

func reg(thread int, name string) api.Ref { return api.Ref{Thread: thread, Name: name} }

func is(r api.Ref, v int64) api.Node { return api.Node{Op: api.CIs, Ref: r, Value: v} }

// sb is the test of the chapter's first example.
func sb() api.Test {
	return api.Test{
		Name:  "SB",
		Inits: []api.Init{{Ref: loc("x")}, {Ref: loc("y")}},
		Threads: [][]api.Instr{
			{{Op: api.OStoreImm, Loc: "x", Imm: 1}, {Op: api.OLoad, Reg: "EAX", Loc: "y"}},
			{{Op: api.OStoreImm, Loc: "y", Imm: 1}, {Op: api.OLoad, Reg: "EAX", Loc: "x"}},
		},
		Quant: api.Exists,
		Cond:  api.Cond{is(reg(0, "EAX"), 0), is(reg(1, "EAX"), 0), {Op: api.CAnd, A: 0, B: 1}},
	}
}

// dice is a row of numbers that look unruly and are the same at every run.
func dice(seed uint64) func(n int) int {
	return func(n int) int {
		seed += 0x9e3779b97f4a7c15
		z := (seed ^ seed>>30) * 0xbf58476d1ce4e5b9
		z = (z ^ z>>27) * 0x94d049bb133111eb
		return int((z ^ z>>31) % uint64(n))
	}
}

var (
	nameForm = regexp.MustCompile(`^[A-Za-z_](?:[A-Za-z0-9_.]|[+-][A-Za-z0-9_])*$`)
	regForm  = regexp.MustCompile(`^(?:E[ABCD]X|E[SD]I|E[BS]P|R[89]|R1[0-5])$`)
	locForm  = regexp.MustCompile(`\[(.*)\]`)
)

// isName is what chapter 5 calls a name, said as a pattern.
func isName(s string) bool { return len(s) <= api.MaxName && nameForm.MatchString(s) }

func someRegs() []string {
	return strings.Fields("EAX EBP EBX ECX EDI EDX ESI ESP R10 R11 R12 R13 R14 R15 R8 R9")
}

func someLocs() []string {
	return []string{"x", "y", "_", "EAX", "R15", "true", "exists", "MOV", "a.b", "a.", "a+b-c", "P0", "X", "Z9_", strings.Repeat("n", 64), "a" + strings.Repeat("+b", 31)}
}

// forms is the fields that each Op uses, in the chapter's words.
func forms() []string {
	return []string{"", "Reg Imm", "Reg Src", "Reg Loc", "Loc Imm", "Loc Src", "", "Loc Reg", "Loc Src", "Loc Reg"}
}

// weights is how many events each Op makes.
func weights() []int { return []int{0, 0, 0, 1, 1, 1, 1, 2, 2, 2} }

// fault is something that is wrong with a test.
type fault struct {
	w api.Where
	e api.Errno
}

// faults is all that is wrong with a test, each of the eight rules asked by itself, in the rules' order. Registers and locations are those of the parts that are right.
func faults(t api.Test) []fault {
	var all []fault
	add := func(e api.Errno, part, i, k int) { all = append(all, fault{api.Where{Part: part, I: i, K: k}, e}) }
	if n := len(t.Threads); n == 0 {
		add(api.ErrThreads, api.WThread, 0, 0)
	} else if n > 4 {
		add(api.ErrThreads, api.WThread, 4, 0)
	}
	if len(t.Inits) > 64 {
		add(api.ErrLong, api.WInit, 64, 0)
	}
	for i, x := range t.Inits {
		if x.Ref.Thread != -1 && (x.Ref.Thread < 0 || x.Ref.Thread >= len(t.Threads)) {
			add(api.ErrUnknown, api.WInit, i, 0)
		}
		if x.Ref.Thread != -1 && !regForm.MatchString(x.Ref.Name) {
			add(api.ErrReg, api.WInit, i, 0)
		}
		if x.Ref.Thread == -1 && !isName(x.Ref.Name) {
			add(api.ErrName, api.WInit, i, 0)
		}
		for _, earlier := range t.Inits[:i] {
			if earlier.Ref == x.Ref {
				add(api.ErrTwice, api.WInit, i, 0)
			}
		}
	}
	for i, l := range t.Threads {
		for k, in := range l {
			for _, e := range instrFaults(in) {
				add(e, api.WInstr, i, k)
			}
		}
	}
	if len(all) == 0 { // what follows asks for the names, which only right parts have
		all = sizeFaults(t)
	}
	return append(all, restFaults(t)...)
}

// instrFaults is what is wrong with an instruction, in order.
func instrFaults(in api.Instr) []api.Errno {
	var all []api.Errno
	form := ""
	if in.Op < 1 || in.Op > 9 {
		all = append(all, api.ErrOp)
	} else {
		form = forms()[in.Op]
	}
	fields := map[string]string{"Reg": in.Reg, "Src": in.Src, "Loc": in.Loc}
	if in.Imm != 0 {
		fields["Imm"] = "some"
	}
	for _, f := range []string{"Reg", "Src", "Loc", "Imm"} {
		if !strings.Contains(form, f) && fields[f] != "" {
			all = append(all, api.ErrOp)
		}
	}
	for _, f := range []string{"Reg", "Src"} {
		if strings.Contains(form, f) && !regForm.MatchString(fields[f]) {
			all = append(all, api.ErrReg)
		}
	}
	if strings.Contains(form, "Loc") && !isName(in.Loc) {
		all = append(all, api.ErrName)
	}
	return all
}

// sizeFaults is what there is too much of.
func sizeFaults(t api.Test) []fault {
	var all []fault
	regs, locs := textNames(t)
	for k, l := range regs {
		if len(l) > 8 {
			all = append(all, fault{api.Where{Part: api.WThread, I: k}, api.ErrRegisters})
		}
	}
	if len(locs) > 16 {
		all = append(all, fault{api.Where{Part: api.WThread}, api.ErrLocs})
	}
	events := len(locs)
	for _, l := range t.Threads {
		for _, in := range l {
			events += weights()[in.Op]
		}
	}
	if events > 64 {
		all = append(all, fault{api.Where{Part: api.WThread}, api.ErrEvents})
	}
	return all
}

// restFaults is what is wrong behind the threads.
func restFaults(t api.Test) []fault {
	var all []fault
	add := func(e api.Errno, part, i int) { all = append(all, fault{api.Where{Part: part, I: i}, e}) }
	regs, locs := textNames(t)
	known := func(r api.Ref) bool {
		if r.Thread == -1 {
			return slices.Contains(locs, r.Name)
		}
		return r.Thread >= 0 && r.Thread < len(regs) && slices.Contains(regs[r.Thread], r.Name)
	}
	for i, r := range t.Watch {
		if !known(r) {
			add(api.ErrUnknown, api.WWatch, i)
		}
		if slices.Contains(t.Watch[:i], r) {
			add(api.ErrTwice, api.WWatch, i)
		}
	}
	if e := cond.Check(t.Cond); e != api.OK {
		add(e, api.WCond, 0)
	}
	for i, n := range t.Cond {
		if n.Op == api.CIs && !known(n.Ref) {
			add(api.ErrUnknown, api.WCond, i)
		}
	}
	if t.Quant < 1 || t.Quant > 3 {
		add(api.ErrOp, api.WCond, 0)
	}
	if !isName(t.Name) {
		add(api.ErrName, api.WInit, 0)
	}
	if strings.Contains(t.Doc, `"`) || strings.Contains(t.Doc, "\n") {
		add(api.ErrToken, api.WInit, 0)
	}
	return all
}

// textNames is the registers of each thread and the locations, looked for in the texts of instructions: what stands in brackets is a location, what has a register's form beside them is a register.
func textNames(t api.Test) ([][]string, []string) {
	regs, locs := make([][]string, len(t.Threads)), []string{}
	for _, x := range t.Inits {
		if x.Ref.Thread == -1 {
			locs = append(locs, x.Ref.Name)
		} else if x.Ref.Thread >= 0 && x.Ref.Thread < len(regs) {
			regs[x.Ref.Thread] = append(regs[x.Ref.Thread], x.Ref.Name)
		}
	}
	for k, l := range t.Threads {
		for _, in := range l {
			s, _ := print.Instr(in)
			for _, m := range locForm.FindAllStringSubmatch(s, -1) {
				locs = append(locs, m[1])
			}
			if strings.HasPrefix(s, "LOCK CMPXCHG") {
				regs[k] = append(regs[k], "EAX")
			}
			for _, f := range strings.FieldsFunc(s, func(r rune) bool { return r == ' ' || r == ',' }) {
				if regForm.MatchString(f) {
					regs[k] = append(regs[k], f)
				}
			}
		}
	}
	for k := range regs {
		slices.Sort(regs[k])
		regs[k] = slices.Compact(regs[k])
	}
	slices.Sort(locs)
	return regs, slices.Compact(locs)
}

// programOf is the program of a test that is right, looked up in the texts of its instructions.
func programOf(t api.Test) api.Prog {
	regs, locs := textNames(t)
	p := api.Prog{Regs: regs, Locs: locs}
	setting := func(r api.Ref) int64 {
		i := slices.IndexFunc(t.Inits, func(x api.Init) bool { return x.Ref == r })
		if i < 0 {
			return 0
		}
		return t.Inits[i].Value
	}
	for k, l := range regs {
		var values []int64
		for _, s := range l {
			values = append(values, setting(reg(k, s)))
		}
		p.RegInit = append(p.RegInit, values)
		var ops []api.Op
		for _, in := range t.Threads[k] {
			op := api.Op{Kind: in.Op, Reg: slices.Index(l, in.Reg), Src: slices.Index(l, in.Src), Loc: slices.Index(locs, in.Loc), Imm: in.Imm}
			if in.Op == api.OCmpxchg {
				op.Reg = slices.Index(l, "EAX")
			}
			op.Reg, op.Src, op.Loc = max(op.Reg, 0), max(op.Src, 0), max(op.Loc, 0)
			ops = append(ops, op)
		}
		p.Threads = append(p.Threads, ops)
	}
	for _, s := range locs {
		p.LocInit = append(p.LocInit, setting(loc(s)))
	}
	return p
}

// runTest is the values that registers and locations have when the threads of a test run one behind the other, each instruction done as its text says it.
func runTest(t api.Test) map[string]int64 {
	cells := map[string]int64{}
	for _, x := range t.Inits {
		s, _ := print.Ref(x.Ref)
		cells[s] = x.Value
	}
	for k, l := range t.Threads {
		for _, in := range l {
			s, _ := print.Instr(in)
			runText(cells, fmt.Sprint(k, ":"), s)
		}
	}
	return cells
}

func runText(cells map[string]int64, thread, text string) {
	text, locked := strings.CutPrefix(text, "LOCK ")
	verb, rest, _ := strings.Cut(text, " ")
	a, b, _ := strings.Cut(rest, ",")
	cell := func(s string) string {
		if strings.HasPrefix(s, "[") {
			return strings.Trim(s, "[]")
		}
		return thread + s
	}
	value := func(s string) int64 {
		if n, ok := strings.CutPrefix(s, "$"); ok {
			v, _ := strconv.ParseInt(n, 10, 64)
			return v
		}
		return cells[cell(s)]
	}
	va, vb := value(a), value(b)
	switch {
	case verb == "MOV":
		cells[cell(a)] = vb
	case verb == "XCHG":
		cells[cell(a)], cells[cell(b)] = vb, va
	case verb == "XADD" && locked:
		cells[cell(a)], cells[cell(b)] = int64(uint64(va)+uint64(vb)), va
	case verb == "CMPXCHG" && locked && va == value("EAX"):
		cells[cell(a)] = vb
	case verb == "CMPXCHG" && locked:
		cells[cell("EAX")] = va
	}
}

func evenTest(t api.Test) api.Test {
	t.Inits = append([]api.Init{}, t.Inits...)
	t.Watch = append([]api.Ref{}, t.Watch...)
	t.Cond = append(api.Cond{}, t.Cond...)
	t.Threads = evenLists(t.Threads)
	return t
}

func evenLists[T any](l [][]T) [][]T {
	out := [][]T{}
	for _, e := range l {
		out = append(out, append([]T{}, e...))
	}
	return out
}

func evenProg(p api.Prog) api.Prog {
	p.Threads, p.Regs, p.RegInit = evenLists(p.Threads), evenLists(p.Regs), evenLists(p.RegInit)
	p.Locs = append([]string{}, p.Locs...)
	p.LocInit = append([]int64{}, p.LocInit...)
	return p
}

// sameTest and sameProg take a list that is empty for nil.
func sameTest(a, b api.Test) bool { return reflect.DeepEqual(evenTest(a), evenTest(b)) }

func sameProg(a, b api.Prog) bool { return reflect.DeepEqual(evenProg(a), evenProg(b)) }

// randomTest is a test of which nothing is wrong: threads of all lengths, names of all kinds, some of them only set.
func randomTest(roll func(int) int) api.Test {
	x := api.Test{Name: pick(roll, someLocs()), Doc: pick(roll, []string{"", "a doc", "é | ;\t\r\x00\xff"}), Quant: 1 + roll(3)}
	locs := some(roll, someLocs(), roll(17))
	var refs []api.Ref
	left := 64 - len(locs)
	for k := range 1 + roll(4) {
		regs := some(roll, someRegs(), roll(9))
		var l []api.Instr
		for range roll(roll(30) + 1) {
			in, ok := randomInstr(roll, regs, locs)
			if ok && left >= weights()[in.Op] {
				left -= weights()[in.Op]
				l = append(l, in)
			}
		}
		x.Threads = append(x.Threads, l)
		for _, s := range regs {
			refs = append(refs, reg(k, s))
		}
	}
	for _, s := range locs {
		refs = append(refs, loc(s))
	}
	for _, r := range some(roll, refs, roll(len(refs)+1)) {
		x.Inits = append(x.Inits, api.Init{Ref: r, Value: pick(roll, someValues())})
	}
	named := textRefs(x)
	x.Watch = some(roll, named, roll(len(named)+1))
	x.Cond = randomCond(roll, named, 1+roll(5))
	return x
}

func someValues() []int64 { return []int64{0, 0, 1, 1, 2, -1, 1<<63 - 1, -1 << 63, 255} }

func pick[T any](roll func(int) int, l []T) T { return l[roll(len(l))] }

// some is n elements of a list, in any order.
func some[T any](roll func(int) int, l []T, n int) []T {
	l = slices.Clone(l)
	for i := range l {
		k := i + roll(len(l)-i)
		l[i], l[k] = l[k], l[i]
	}
	return l[:n]
}

// randomInstr is an instruction over names; false: there are none that its Op needs.
func randomInstr(roll func(int) int, regs, locs []string) (api.Instr, bool) {
	in := api.Instr{Op: 1 + roll(9)}
	form := forms()[in.Op]
	needsReg := strings.Contains(form, "Reg") || strings.Contains(form, "Src")
	if needsReg && len(regs) == 0 || strings.Contains(form, "Loc") && len(locs) == 0 || in.Op == api.OCmpxchg && !slices.Contains(regs, "EAX") {
		return in, false
	}
	if strings.Contains(form, "Reg") {
		in.Reg = pick(roll, regs)
	}
	if strings.Contains(form, "Src") {
		in.Src = pick(roll, regs)
	}
	if strings.Contains(form, "Loc") {
		in.Loc = pick(roll, locs)
	}
	if strings.Contains(form, "Imm") {
		in.Imm = pick(roll, someValues())
	}
	return in, true
}

// textRefs is the registers and locations of a test, as a final state has them.
func textRefs(t api.Test) []api.Ref {
	var refs []api.Ref
	regs, locs := textNames(t)
	for k, l := range regs {
		for _, s := range l {
			refs = append(refs, reg(k, s))
		}
	}
	for _, s := range locs {
		refs = append(refs, loc(s))
	}
	return refs
}

func randomCond(roll func(int) int, refs []api.Ref, leaves int) api.Cond {
	if leaves == 1 {
		c := api.Cond{{Op: api.CTrue}}
		if len(refs) > 0 && roll(5) > 0 {
			c[0] = is(pick(roll, refs), pick(roll, someValues()))
		}
		if roll(4) == 0 {
			c = append(c, api.Node{Op: api.CNot})
		}
		return c
	}
	k := 1 + roll(leaves-1)
	a, b := randomCond(roll, refs, k), randomCond(roll, refs, leaves-k)
	for i, n := range b {
		if n.Op >= api.CNot {
			b[i].A += len(a)
		}
		if n.Op >= api.CAnd {
			b[i].B += len(a)
		}
	}
	return slices.Concat(a, b, api.Cond{{Op: api.CAnd + roll(2), A: len(a) - 1, B: len(a) + len(b) - 1}})
}

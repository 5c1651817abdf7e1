package canon_test

import (
	"fmt"
	"slices"
	"strings"
	"testing"

	"weir/api"
	"weir/litmus"
	"weir/prog"
)

// dice is a row of numbers that look unruly and are the same at every run.
func dice(seed uint64) func(n int) int {
	return func(n int) int {
		seed += 0x9e3779b97f4a7c15
		z := (seed ^ seed>>30) * 0xbf58476d1ce4e5b9
		z = (z ^ z>>27) * 0x94d049bb133111eb
		return int((z ^ z>>31) % uint64(n))
	}
}

func pick[T any](roll func(int) int, l []T) T { return l[roll(len(l))] }

// some is n elements of a list, in any order.
func some[T any](roll func(int) int, l []T, n int) []T {
	l = slices.Clone(l)
	for i := range l {
		k := i + roll(len(l)-i)
		l[i], l[k] = l[k], l[i]
	}
	return l[:n]
}

func loc(name string) api.Ref { return api.Ref{Thread: -1, Name: name} }

func reg(thread int, name string) api.Ref { return api.Ref{Thread: thread, Name: name} }

// of is the test of a file of one line: settings, threads whose instructions stand with a ; between them, and what is behind.
func of(t *testing.T, settings string, threads []string, rest string) api.Test {
	t.Helper()
	x, err := litmus.Parse("X86 q {" + settings + "} P0; " + rest)
	if len(threads) > 1 {
		head := "P0"
		for k := range threads[1:] {
			head += fmt.Sprint(" | P", k+1)
		}
		x, err = litmus.Parse("X86 q {" + settings + "} " + head + "; " + rest)
	}
	if err != nil {
		t.Fatalf("%s, %s: %v", settings, rest, err)
	}
	for k, thread := range threads {
		for _, text := range strings.FieldsFunc(thread, func(r rune) bool { return r == ';' }) {
			in, err := litmus.Instruction(text)
			if err != nil {
				t.Fatalf("%s: %v", text, err)
			}
			x.Threads[k] = append(x.Threads[k], in)
		}
	}
	if w, e := prog.Check(x); e != api.OK {
		t.Fatalf("%s, %s, %s: %v, %d", settings, threads, rest, w, e)
	}
	return x
}

// sb is the test that people know, over two locations.
func sb(t *testing.T, x, y, rest string) api.Test {
	t.Helper()
	return of(t, "", []string{"MOV [" + x + "],$1; MOV EAX,[" + y + "]", "MOV [" + y + "],$1; MOV EAX,[" + x + "]"}, rest)
}

const bothNought = "exists 0:EAX=0 /\\ 1:EAX=0"

func someRegs() []string {
	return strings.Fields("EAX EBP EBX ECX EDI EDX ESI ESP R10 R11 R12 R13 R14 R15 R8 R9")
}

func someLocs() []string {
	return []string{"x", "y", "_", "EAX", "R15", "true", "exists", "MOV", "a", "b", "c", "a.b", "a+b-c", "P0", "Z9_", "p", strings.Repeat("n", 64), "a" + strings.Repeat("+b", 31)}
}

func someValues() []int64 { return []int64{0, 0, 0, 1, 1, 2, -1, 1<<63 - 1, -1 << 63, 255} }

// size is how much there may be of a test.
type size struct {
	threads, regs, locs, length int
	values                      []int64
}

func large() size { return size{4, 8, 16, 8, someValues()} }

// small is little enough for all renamings to be tried, and for many tests to be the same.
func small() size { return size{3, 2, 3, 3, []int64{0, 0, 1}} }

// someTest is a test of which nothing is wrong: names of all kinds, some of them only set.
func someTest(t *testing.T, roll func(int) int, n size) api.Test {
	t.Helper()
	x := api.Test{Name: pick(roll, someLocs()), Doc: pick(roll, []string{"", "a doc", "é | ;\t\r\x00\xff"}), Quant: 1 + roll(3)}
	locs := some(roll, someLocs(), roll(n.locs+1))
	var refs []api.Ref
	left := 64 - len(locs)
	for k := range 1 + roll(n.threads) {
		regs := some(roll, someRegs(), roll(n.regs+1))
		if len(regs) > 0 && !slices.Contains(regs, "EAX") && roll(2) > 0 { // without EAX there is no CMPXCHG
			regs[0] = "EAX"
		}
		var l []api.Instr
		for range roll(n.length + 1) {
			in, ok := someInstr(roll, regs, locs, n.values)
			if ok && left >= 2 {
				left -= 2
				l = append(l, in)
			}
		}
		x.Threads = append(x.Threads, l)
		for _, s := range regs {
			refs = append(refs, reg(k, s))
		}
	}
	for _, s := range locs {
		refs = append(refs, loc(s))
	}
	for _, r := range some(roll, refs, roll(len(refs)+1)) {
		x.Inits = append(x.Inits, api.Init{Ref: r, Value: pick(roll, n.values)})
	}
	named := refsOf(x)
	x.Watch = some(roll, named, roll(len(named)+1)*roll(2))
	x.Cond = someCond(roll, named, n.values, 1+roll(4))
	if w, e := prog.Check(x); e != api.OK {
		t.Fatalf("%v: %v, %d", x, w, e)
	}
	return x
}

// someInstr is an instruction over names; false: there are none that its Op needs.
func someInstr(roll func(int) int, regs, locs []string, values []int64) (api.Instr, bool) {
	in := api.Instr{Op: 1 + roll(9)}
	form := strings.Fields("- Reg,Imm Reg,Src Reg,Loc Loc,Imm Loc,Src - Loc,Reg Loc,Src Loc,Reg")[in.Op]
	needsReg := strings.Contains(form, "Reg") || strings.Contains(form, "Src")
	if needsReg && len(regs) == 0 || strings.Contains(form, "Loc") && len(locs) == 0 || in.Op == api.OCmpxchg && !slices.Contains(regs, "EAX") {
		return in, false
	}
	if strings.Contains(form, "Reg") {
		in.Reg = pick(roll, regs)
	}
	if strings.Contains(form, "Src") {
		in.Src = pick(roll, regs)
	}
	if strings.Contains(form, "Loc") {
		in.Loc = pick(roll, locs)
	}
	if strings.Contains(form, "Imm") {
		in.Imm = pick(roll, values)
	}
	return in, true
}

func someCond(roll func(int) int, refs []api.Ref, values []int64, leaves int) api.Cond {
	if leaves == 1 {
		c := api.Cond{{Op: api.CTrue}}
		if len(refs) > 0 && roll(5) > 0 {
			c[0] = api.Node{Op: api.CIs, Ref: pick(roll, refs), Value: pick(roll, values)}
		}
		if roll(4) == 0 {
			c = append(c, api.Node{Op: api.CNot})
		}
		return c
	}
	k := 1 + roll(leaves-1)
	a, b := someCond(roll, refs, values, k), someCond(roll, refs, values, leaves-k)
	for i, n := range b {
		if n.Op >= api.CNot {
			b[i].A += len(a)
		}
		if n.Op >= api.CAnd {
			b[i].B += len(a)
		}
	}
	return slices.Concat(a, b, api.Cond{{Op: api.CAnd + roll(2), A: len(a) - 1, B: len(a) + len(b) - 1}})
}

// someRenaming is a right renaming of a test: some names stay unsaid, where they may, and some changes are of names that the test has not.
func someRenaming(roll func(int) int, x api.Test) api.Renaming {
	regs, locs := namesOf(x)
	r := api.Renaming{Threads: numbers(len(x.Threads))}
	r.Threads = some(roll, r.Threads, len(r.Threads))
	for k, l := range x.Threads {
		to := some(roll, someRegs(), 16)
		if i := slices.Index(regs[k], "EAX"); i >= 0 && hasCmpxchg(l) {
			n := slices.Index(to, "EAX")
			to[i], to[n] = to[n], to[i]
		}
		r.Regs = append(r.Regs, someChanges(roll, regs[k], to, someRegs()))
	}
	r.Locs = someChanges(roll, locs, some(roll, someLocs(), len(someLocs())), someLocs())
	return r
}

// someChanges is changes of all names to others, by rising names.
func someChanges(roll func(int) int, names, to, known []string) []api.Change {
	var l []api.Change
	for i, s := range names {
		if s != to[i] || roll(2) > 0 {
			l = append(l, api.Change{From: s, To: to[i]})
		}
	}
	for _, s := range append(known, "", "RAX", "1", "\xff") {
		if !slices.Contains(names, s) && roll(8) == 0 {
			l = append(l, api.Change{From: s, To: pick(roll, []string{"", "EAX", "RAX", "a", "1:a", s})})
		}
	}
	slices.SortFunc(l, func(a, b api.Change) int { return strings.Compare(a.From, b.From) })
	return l
}

func numbers(n int) []int {
	var l []int
	for i := range n {
		l = append(l, i)
	}
	return l
}

// knownTests is tests that people know, and some at the edges.
func knownTests(t *testing.T) []api.Test {
	t.Helper()
	full := strings.Repeat("MFENCE;", 10) + "MOV EAX,[l0]; MOV EBX,[l1]; MOV R8,[l2]; MOV R9,[l3]; MOV R10,[l4]; MOV R11,[l5]; MOV R12,[l6]; MOV R13,[l7]"
	return []api.Test{
		sb(t, "x", "y", bothNought),
		sb(t, "x", "y", "exists true"),
		sb(t, "EAX", "true", "locations [EAX; true; 1:EAX;] forall EAX=1 \\/ true=0"),
		of(t, "x=0; y=0", []string{"MOV [x],$1; MOV [y],$1", "MOV EAX,[y]; MOV EBX,[x]"}, "exists 1:EAX=1 /\\ 1:EBX=0"),
		of(t, "", []string{"MOV [x],$1", "MOV [y],$1", "MOV EAX,[x]; MOV EBX,[y]", "MOV EAX,[y]; MOV EBX,[x]"}, "exists 2:EAX=1 /\\ 2:EBX=0 /\\ 3:EAX=1 /\\ 3:EBX=0"),
		of(t, "", []string{"MOV EAX,[x]; MOV [y],$1", "MOV EAX,[y]; MOV [z],$1", "MOV EAX,[z]; MOV [x],$1"}, "~exists true"),
		of(t, "", []string{"MFENCE", "MFENCE", "MFENCE", "MFENCE"}, "exists true"),
		of(t, "", []string{""}, "exists true"),
		of(t, "", []string{"", "", "", ""}, "forall true"),
		of(t, "0:EAX=1; 1:EAX=1; 2:EBX=1; 3:EBX=2", []string{"LOCK XADD [x],EAX", "LOCK XADD [x],EAX", "LOCK XADD [x],EBX", "LOCK XADD [x],EBX"}, "locations [x;] exists x=5"),
		of(t, "0:EBX=0; 0:ECX=0; 0:EDX=-1; b=2; c=2; a=-2; d=0", []string{""}, "exists true"),
		of(t, "1:EAX=0; 1:ECX=0; 1:ESP=0", []string{"LOCK CMPXCHG [x],EAX", "LOCK CMPXCHG [x],ECX; MOV ESI,EAX"}, "exists 1:ECX=0 /\\ 1:ESP=0"),
		of(t, "", []string{full}, "locations [l7; l6; 0:R13;] exists 0:R8=1"),
	}
}

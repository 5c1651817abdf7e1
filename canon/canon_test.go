package canon_test

import (
	"fmt"
	"math"
	"slices"
	"strings"
	"testing"

	"weir/api"
	"weir/canon"
	"weir/prog"
)

// checkForm holds Form and Orders against the forms by all orders, as they are made from texts.
func checkForm(t *testing.T, x api.Test) {
	t.Helper()
	want, by, n := leastForm(t, x)
	f, r, e := canon.Form(x)
	if e != api.OK || !same(f, want) {
		t.Errorf("Form(%v): %d\n%swant\n%s", x, e, textOf(t, f), textOf(t, want))
	}
	if !same(r, by) {
		t.Errorf("Form(%v): names %v; want %v", x, r, by)
	}
	if got, e := canon.Orders(x); e != api.OK || got != n {
		t.Errorf("Orders(%v): %d, %d; want %d", x, got, e, n)
	}
}

// checkRefused holds Form and Orders, Same and Classes against an error.
func checkRefused(t *testing.T, what string, x api.Test, want api.Errno) {
	t.Helper()
	if f, r, e := canon.Form(x); e != want || !same(f, api.Test{}) || !same(r, api.Renaming{}) {
		t.Errorf("Form of %s: %.200s, %v, %d; want %d", what, fmt.Sprint(f), r, e, want)
	}
	if n, e := canon.Orders(x); e != want || n != 0 {
		t.Errorf("Orders of %s: %d, %d; want %d", what, n, e, want)
	}
	good := api.Test{Name: "t", Threads: make([][]api.Instr, 1), Quant: api.Exists, Cond: api.Cond{{Op: api.CTrue}}}
	for _, pair := range [][2]api.Test{{x, x}, {x, good}, {good, x}, {x, {}}} {
		if ok, e := canon.Same(pair[0], pair[1]); e != want || ok {
			t.Errorf("Same of %s: %v, %d; want %d", what, ok, e, want)
		}
	}
	for _, l := range [][]api.Test{{x}, {good, good, x}, {x, {}}, {good, x, good, {}}} {
		if classes, e := canon.Classes(l); e != want || len(classes) > 0 {
			t.Errorf("Classes with %s: %v, %d; want %d", what, classes, e, want)
		}
	}
}

// checkApply holds Apply against what a renaming makes of a test's texts, or against ErrRange, if it is not right.
func checkApply(t *testing.T, what string, x api.Test, r api.Renaming) {
	t.Helper()
	y, e := canon.Apply(x, r)
	switch {
	case !rightOf(x, r):
		if e != api.ErrRange || !same(y, api.Test{}) {
			t.Errorf("%s: Apply(%v, %v): %v, %d; want ErrRange", what, x, r, y, e)
		}
	case e != api.OK || !same(y, underOf(t, x, r)):
		t.Errorf("%s: Apply(%v, %v): %v, %d; want %v", what, x, r, y, e, underOf(t, x, r))
	}
}

// 27.2: the chapter's first example, both forms.
func TestFirstExample(t *testing.T) {
	q := of(t, "y=0; 1:EBX=5", []string{"MOV EBX,[v]", "MOV [v],EBX"}, "exists 0:EBX=5")
	straight := "X86 t\n{\n1:EAX=5;\nb=0;\n}\n P0          | P1          ;\n MOV EAX,[a] | MOV [a],EAX ;\nexists 0:EAX=5\n"
	turned := "X86 t\n{\n0:EAX=5;\nb=0;\n}\n P0          | P1          ;\n MOV [a],EAX | MOV EAX,[a] ;\nexists 1:EAX=5\n"
	if x, _ := formBy(t, q, []int{0, 1}); textOf(t, x) != straight {
		t.Errorf("by 0 1: %s", textOf(t, x))
	}
	f, r, e := canon.Form(q)
	if e != api.OK || textOf(t, f) != turned {
		t.Errorf("%d, %s", e, textOf(t, f))
	}
	ebx := []api.Change{{From: "EBX", To: "EAX"}}
	if want := (api.Renaming{Threads: []int{1, 0}, Regs: [][]api.Change{ebx, ebx}, Locs: []api.Change{{From: "v", To: "a"}, {From: "y", To: "b"}}}); !same(r, want) {
		t.Errorf("%v", r)
	}
	checkForm(t, q)
}

// 27.2, 27.3: the other examples.
func TestExamples(t *testing.T) {
	x := sb(t, "x", "y", bothNought)
	mp := of(t, "", []string{"MOV [x],$1; MOV [y],$1", "MOV EAX,[y]; MOV EAX,[x]"}, "exists 1:EAX=0")
	turned := of(t, "", []string{"MOV [y],$1; MOV EAX,[x]", "MOV [x],$1; MOV EAX,[y]"}, "exists 1:EAX=0 /\\ 0:EAX=0")
	for i, c := range []struct {
		y    api.Test
		same bool
	}{{x, true}, {sb(t, "y", "x", bothNought), true}, {turned, true}, {mp, false}, {sb(t, "x", "y", "exists true"), false}} {
		if ok, e := canon.Same(x, c.y); ok != c.same || e != api.OK {
			t.Errorf("row %d: %v, %d", i, ok, e)
		}
	}
	if n, e := canon.Orders(x); n != 1 || e != api.OK {
		t.Errorf("Orders: %d, %d", n, e)
	}
	if n, e := canon.Orders(sb(t, "x", "y", "exists true")); n != 2 || e != api.OK {
		t.Errorf("Orders: %d, %d", n, e)
	}
	f, r, e := canon.Form(of(t, "", []string{"LOCK CMPXCHG [x],ECX"}, "exists true"))
	if e != api.OK || f.Threads[0][0] != (api.Instr{Op: api.OCmpxchg, Loc: "a", Src: "EBX"}) {
		t.Errorf("%v, %d", f, e)
	}
	if want := [][]api.Change{{{From: "EAX", To: "EAX"}, {From: "ECX", To: "EBX"}}}; !same(r.Regs, want) {
		t.Errorf("%v", r)
	}
}

// 27.2: each place in which a name can come first, the values of those that come nowhere, and the settings that are left out.
func TestFormNames(t *testing.T) {
	for i, c := range []struct {
		x    api.Test
		want string // the form's words
	}{
		{of(t, "", []string{"MOV R9,R8; MOV [z],R10; MOV ESP,[y]; XCHG [z],EBP; MOV [x],ESP"}, "exists true"),
			"X86 t { } P0 ; MOV EAX,EBX ; MOV [a],ECX ; MOV EDX,[b] ; XCHG [a],ESI ; MOV [c],EDX ; exists true"},
		{of(t, "z=1; y=2; x=3; w=4; v=5; 0:R8=1; 0:R9=2; 0:R10=3; 0:R11=4; 0:R12=5", []string{"MOV [v],R12"}, "locations [w; 0:R11; 0:R12; v;] exists x=1 /\\ 0:R10=1"),
			"X86 t { 0:EAX=5; 0:EBX=3; 0:ECX=4; 0:EDX=1; 0:ESI=2; a=5; b=3; c=4; d=1; e=2; } P0 ; MOV [a],EAX ; locations [c; 0:ECX; 0:EAX; a;] exists b=1 /\\ 0:EBX=1"},
		{of(t, "a=9223372036854775807; b=-9223372036854775808; d=0; c=0; e=-1; 0:EAX=1; 0:EBX=-1; 0:ECX=-2", []string{""}, "exists true"),
			"X86 t { 0:EAX=-2; 0:EBX=-1; 0:ECX=1; a=-9223372036854775808; b=-1; c=0; d=0; e=9223372036854775807; } P0 ; exists true"},
		{of(t, "x=0; y=0; z=0; 0:EAX=0; 0:EBX=0; 0:ECX=0", []string{"MOV [x],EBX"}, "locations [y; 0:ECX;] exists true"),
			"X86 t { 0:EBX=0; 0:ECX=0; b=0; c=0; } P0 ; MOV [a],EAX ; locations [b; 0:EBX;] exists true"},
		{of(t, "0:EAX=0; 0:EBX=0", []string{"LOCK CMPXCHG [x],ECX"}, "exists 0:EBX=1"),
			"X86 t { 0:ECX=0; } P0 ; LOCK CMPXCHG [a],EBX ; exists 0:ECX=1"},
		{of(t, "0:EAX=7; 0:EBX=-7", []string{"MOV EDI,ESI; LOCK CMPXCHG [x],EAX"}, "exists true"),
			"X86 t { 0:EAX=7; 0:EDX=-7; } P0 ; MOV EBX,ECX ; LOCK CMPXCHG [a],EAX ; exists true"},
		{of(t, "", []string{"MOV EDI,$1; MOV EAX,$2"}, "forall ~(0:EAX=1 \\/ 0:EDI=2)"),
			"X86 t { } P0 ; MOV EAX,$1 ; MOV EBX,$2 ; forall ~(0:EBX=1 \\/ 0:EAX=2)"},
		{of(t, "", []string{"", "MOV EAX,[EAX]", "MOV [EBX],$2"}, "~exists [EAX]=1"),
			"X86 t { } P0 | P1 | P2 ; MOV EAX,[a] | MOV [b],$2 | ; ~exists a=1"},
		{of(t, "0:EAX=-1; 1:EDI=1; 1:EBX=2; 0:ECX=3; y=0; x=-1", []string{"", "MOV [x],EDI"}, "exists true"),
			"X86 t { 0:EAX=-1; 0:EBX=3; 1:EAX=1; 1:EBX=2; a=-1; b=0; } P0 | P1 ; | MOV [a],EAX ; exists true"}, // settings stand ahead of rows
	} {
		f, _, e := canon.Form(c.x)
		if s := strings.Join(strings.Fields(textOf(t, f)), " "); e != api.OK || s != c.want {
			t.Errorf("row %d: %d\n%s\n%s", i, e, s, c.want)
		}
		checkForm(t, c.x)
	}
}

// 27.2: where several orders make the form, the renaming is that of the first one; Threads says where each thread goes, not who comes.
func TestFirstOrder(t *testing.T) {
	for i, c := range []struct {
		threads []string
		want    []int
		orders  int
	}{
		{[]string{"MFENCE", "MFENCE", "MFENCE"}, []int{0, 1, 2}, 6},
		{[]string{"MFENCE", "MFENCE", "MFENCE", "MFENCE"}, []int{0, 1, 2, 3}, 24},
		// The wider a column, the less is a text in which it stands first: a blank is less than a | .
		{[]string{"MOV [x],$1", "MFENCE", "MFENCE"}, []int{0, 1, 2}, 2},
		{[]string{"MFENCE", "MOV [x],$1", "MFENCE"}, []int{1, 0, 2}, 2},
		{[]string{"MFENCE", "MFENCE", "MOV [x],$1"}, []int{1, 2, 0}, 2},
		{[]string{"MFENCE", "XCHG [x],EAX", "MOV EAX,[x]"}, []int{2, 0, 1}, 1},
		{[]string{"MOV EAX,[x]", "MFENCE", "XCHG [x],EAX"}, []int{1, 2, 0}, 1},
		{[]string{"MFENCE", "XCHG [x],EAX", "MFENCE", "MOV EAX,[x]"}, []int{2, 0, 3, 1}, 2},
	} {
		x := of(t, "", c.threads, "exists true")
		_, r, e := canon.Form(x)
		n, _ := canon.Orders(x)
		if e != api.OK || !slices.Equal(r.Threads, c.want) || n != c.orders {
			t.Errorf("row %d: %v, %d, %d orders", i, r.Threads, e, n)
		}
		checkForm(t, x)
	}
}

// 27.2: all lists of instructions that few names allow, in two threads.
func TestFormAll(t *testing.T) {
	instrs := strings.Fields("MOV_EBX,[y] MOV_[x],EBX MOV_[y],EAX MOV_EAX,EBX MOV_EBX,$1 XCHG_[x],EAX LOCK_CMPXCHG_[x],EBX MFENCE")
	for i, in := range instrs {
		instrs[i] = strings.ReplaceAll(in, "_", " ")
	}
	threads := append([]string{""}, instrs...)
	for _, a := range instrs {
		for _, b := range instrs {
			threads = append(threads, a+";"+b)
		}
	}
	for _, a := range threads {
		for i, b := range threads {
			settings := []string{"x=0; y=0; 0:EAX=0; 1:EBX=1; 0:EBX=0", "y=1; x=0; 0:EBX=1; 0:EAX=1; 1:EBX=0"}[i%2]
			checkForm(t, of(t, settings, []string{a, b}, []string{"exists true", "exists y=1 /\\ 0:EBX=0", "locations [x; 0:EBX; y;] forall true"}[i%3]))
		}
	}
}

// 27.1, 27.2: known tests, and unruly ones with right renamings.
func TestUnruly(t *testing.T) {
	roll := dice(27)
	tests := knownTests(t)
	for range 1500 {
		tests = append(tests, someTest(t, roll, large()), someTest(t, roll, small()))
	}
	with := map[string]int{}
	for _, x := range tests {
		checkForm(t, x)
		for range 2 {
			r := someRenaming(roll, x)
			if !rightOf(x, r) {
				t.Fatalf("%v is not right for %v", r, x)
			}
			checkApply(t, "unruly", x, r)
		}
		n, _ := canon.Orders(x)
		with[fmt.Sprint(len(x.Threads), " threads, ", n, " orders")]++
	}
	if len(with) < 11 {
		t.Errorf("tests seen: %v", with)
	}
}

// turn is a change of a renaming, most often one that makes it wrong.
type turn struct {
	what string
	do   func(*api.Renaming)
}

func turns() []turn {
	var all []turn
	add := func(what string, do func(*api.Renaming)) { all = append(all, turn{what, do}) }
	for _, l := range [][]int{nil, {0}, {0, 1}, {1, 0}, {0, 1, 2}, {2, 1, 0}, {1, 1, 0}, {0, 0, 0}, {0, 1, 3}, {1, 2, 3}, {-1, 0, 1}, {0, 1, 2, 3}, {0, 1, 2, 2}, {math.MinInt, 0, 1}, {2, math.MaxInt, 0}, {1 << 32, 1, 2}} {
		add(fmt.Sprint("Threads ", l), func(r *api.Renaming) { r.Threads = l })
	}
	add("no Regs", func(r *api.Renaming) { r.Regs = nil })
	add("a list less", func(r *api.Renaming) { r.Regs = r.Regs[:len(r.Regs)-1] })
	add("a list more", func(r *api.Renaming) { r.Regs = append(r.Regs, nil) })
	add("no Locs", func(r *api.Renaming) { r.Locs = nil })
	lists := func(what string, do func(l []api.Change) []api.Change) {
		for k := range 3 {
			add(fmt.Sprint(what, " in ", k), func(r *api.Renaming) { r.Regs[k] = do(r.Regs[k]) })
		}
		add(what+" in Locs", func(r *api.Renaming) { r.Locs = do(r.Locs) })
	}
	lists("nothing", func([]api.Change) []api.Change { return nil })
	lists("backwards", func(l []api.Change) []api.Change { slices.Reverse(l); return l })
	lists("the first twice", func(l []api.Change) []api.Change { return append(l[:1:1], l...) })
	lists("strange names that rise", func([]api.Change) []api.Change {
		return []api.Change{{From: "", To: "EDI"}, {From: "\x00", To: "\x00"}, {From: "1", To: ""}, {From: "\xff", To: "EAX"}}
	})
	lists("strange names that fall", func(l []api.Change) []api.Change { return append(l, api.Change{From: "!"}) })
	lists("strange names that stay", func(l []api.Change) []api.Change {
		return append(l, api.Change{From: "~~"}, api.Change{From: "~~", To: "a"})
	})
	for _, to := range append(someRegs(), "", "RAX", "eax", "x", "y", "1", "a b", "x-", "EAX\n", strings.Repeat("n", 64), strings.Repeat("n", 65), "0:EAX") {
		for i := range 3 {
			lists(fmt.Sprintf("to %q at %d", to, i), func(l []api.Change) []api.Change { l[i].To = to; return l })
		}
	}
	for i := range 3 {
		lists(fmt.Sprint("not ", i), func(l []api.Change) []api.Change { return slices.Delete(l, i, i+1) })
		lists(fmt.Sprint(i, " stays"), func(l []api.Change) []api.Change { l[i].To = l[i].From; return l })
	}
	return all
}

// turned is a renaming with a change, or false, if it can't be made of it.
func turned(r api.Renaming, w turn) (out api.Renaming, ok bool) {
	defer func() { ok = recover() == nil }()
	out = even(r).(api.Renaming)
	w.do(&out)
	return out, true
}

// wide is a test and a renaming of all its names; of its threads the one in the middle has a CMPXCHG.
func wide(t *testing.T) (api.Test, api.Renaming) {
	t.Helper()
	x := of(t, "w=3; 1:EDX=0; 0:ECX=1", []string{"MOV EAX,[x]; MOV EBX,EAX", "LOCK CMPXCHG [y],EBX", "MOV R8,$1; XCHG [x],R9; LOCK XADD [w],R10"}, "locations [0:EAX; w; x;] exists 0:ECX=1 /\\ (1:EDX=0 \\/ w=2) /\\ true")
	return x, api.Renaming{
		Threads: []int{2, 0, 1},
		Regs: [][]api.Change{
			{{From: "EAX", To: "EBX"}, {From: "EBX", To: "ECX"}, {From: "ECX", To: "EAX"}},
			{{From: "EAX", To: "EAX"}, {From: "EBX", To: "R15"}, {From: "EDX", To: "ESP"}},
			{{From: "R10", To: "R8"}, {From: "R8", To: "R9"}, {From: "R9", To: "R10"}},
		},
		Locs: []api.Change{{From: "w", To: "x"}, {From: "x", To: "y"}, {From: "y", To: "w"}},
	}
}

// 27.1: each thing that can be wrong with a renaming, and each pair of them.
func TestApplyTurns(t *testing.T) {
	x, r := wide(t)
	if !rightOf(x, r) {
		t.Fatal("the renaming is not right")
	}
	checkApply(t, "nothing", x, r)
	all := turns()
	right, wrong := 0, 0
	for _, a := range all {
		q, _ := turned(r, a)
		checkApply(t, a.what, x, q)
		if rightOf(x, q) {
			right++
		} else {
			wrong++
		}
		for _, b := range all {
			if q, ok := turned(q, b); ok {
				checkApply(t, a.what+" and "+b.what, x, q)
			}
		}
	}
	if right < 50 || wrong < 100 {
		t.Errorf("%d right renamings, %d wrong ones", right, wrong)
	}
}

// 27.1: what must be so, said by itself.
func TestApplyWrong(t *testing.T) {
	for _, c := range []struct {
		what string
		do   func(*api.Renaming)
		want api.Errno
	}{
		{"nothing", func(*api.Renaming) {}, api.OK},
		{"a thread twice", func(r *api.Renaming) { r.Threads[0] = 0 }, api.ErrRange},
		{"a thread below 0", func(r *api.Renaming) { r.Threads[0] = -1 }, api.ErrRange},
		{"a thread that is none", func(r *api.Renaming) { r.Threads[0] = 3 }, api.ErrRange},
		{"a thread too few", func(r *api.Renaming) { r.Threads = []int{1, 0} }, api.ErrRange},
		{"a thread too many", func(r *api.Renaming) { r.Threads = append(r.Threads, 3) }, api.ErrRange},
		{"a list too few", func(r *api.Renaming) { r.Regs = r.Regs[:2] }, api.ErrRange},
		{"a list too many", func(r *api.Renaming) { r.Regs = append(r.Regs, nil) }, api.ErrRange},
		{"a register that is none", func(r *api.Renaming) { r.Regs[0][0].To = "RAX" }, api.ErrRange},
		{"a location that is none", func(r *api.Renaming) { r.Locs[0].To = "1" }, api.ErrRange},
		{"a location of 64 bytes", func(r *api.Renaming) { r.Locs[0].To = strings.Repeat("n", 64) }, api.OK},
		{"a location of 65 bytes", func(r *api.Renaming) { r.Locs[0].To = strings.Repeat("n", 65) }, api.ErrRange},
		{"two registers of one name", func(r *api.Renaming) { r.Regs[0][0].To = "ECX" }, api.ErrRange},
		{"a register with the name of one that stays", func(r *api.Renaming) { r.Regs[0] = r.Regs[0][:1] }, api.ErrRange},
		{"two locations of one name", func(r *api.Renaming) { r.Locs[0].To = "y" }, api.ErrRange},
		{"a location with the name of one that stays", func(r *api.Renaming) { r.Locs = r.Locs[:1] }, api.ErrRange},
		{"EAX of a CMPXCHG", func(r *api.Renaming) { r.Regs[1][0].To = "ECX" }, api.ErrRange},
		{"EAX of a CMPXCHG unsaid", func(r *api.Renaming) { r.Regs[1] = r.Regs[1][1:] }, api.OK},
		{"another one for EAX of a CMPXCHG", func(r *api.Renaming) { r.Regs[1][1].To = "EAX" }, api.ErrRange},
		{"registers that fall", func(r *api.Renaming) { slices.Reverse(r.Regs[2]) }, api.ErrRange},
		{"locations that fall", func(r *api.Renaming) { slices.Reverse(r.Locs) }, api.ErrRange},
		{"a register twice", func(r *api.Renaming) { r.Regs[0] = append(r.Regs[0], r.Regs[0][2]) }, api.ErrRange},
		{"a location twice", func(r *api.Renaming) { r.Locs = append(r.Locs, r.Locs[2]) }, api.ErrRange},
		{"registers that fall where none are", func(r *api.Renaming) { r.Regs[0] = append(r.Regs[0], api.Change{From: "a"}, api.Change{From: "A"}) }, api.ErrRange},
		{"registers that are none of the test's", func(r *api.Renaming) {
			r.Regs[0] = append(r.Regs[0], api.Change{From: "R8", To: "RAX"}, api.Change{From: "x", To: "EAX"})
		}, api.OK},
		{"a field that is not used", func(r *api.Renaming) {
			r.Regs[2] = append([]api.Change{{From: "", To: "EAX"}}, r.Regs[2]...)
			r.Locs = append([]api.Change{{From: "", To: "a"}}, r.Locs...)
		}, api.OK},
	} {
		x, r := wide(t)
		c.do(&r)
		if _, e := canon.Apply(x, r); e != c.want {
			t.Errorf("%s: %d", c.what, e)
		}
		checkApply(t, c.what, x, r)
		// Check's error stands ahead of all that is wrong with a renaming.
		x.Quant = 0
		if y, e := canon.Apply(x, r); e != api.ErrOp || !same(y, api.Test{}) {
			t.Errorf("%s, and no quantifier: %v, %d", c.what, y, e)
		}
	}
}

// 27.1: what stays is there still: the orders of settings and watched references, their values, Name and Doc, Quant, a node's fields that it does not use.
func TestApplyStays(t *testing.T) {
	x, r := wide(t)
	x.Doc = "a | doc"
	y, e := canon.Apply(x, r)
	want := of(t, "x=3; 0:ESP=0; 2:EAX=1", []string{"LOCK CMPXCHG [w],R15", "MOV R9,$1; XCHG [y],R10; LOCK XADD [x],R8", "MOV EBX,[y]; MOV ECX,EBX"}, "locations [2:EBX; x; y;] exists 2:EAX=1 /\\ (0:ESP=0 \\/ x=2) /\\ true")
	want.Doc = x.Doc
	if e != api.OK || !same(y, want) {
		t.Errorf("%v, %d; want %v", y, e, want)
	}
}

// 27.1, 27.2: prog.Check's errors, of each kind.
func TestCheckedFirst(t *testing.T) {
	seen := map[api.Errno]int{}
	for i, do := range []func(*api.Test){
		func(x *api.Test) { *x = api.Test{} },
		func(x *api.Test) { x.Threads = make([][]api.Instr, 5) },
		func(x *api.Test) { x.Inits = make([]api.Init, 65) },
		func(x *api.Test) { x.Inits[0].Ref.Thread = 3 },
		func(x *api.Test) { x.Inits[0].Ref.Thread = -2 },
		func(x *api.Test) { x.Inits[1].Ref.Name = "RAX" },
		func(x *api.Test) { x.Inits[0].Ref.Name = "" },
		func(x *api.Test) { x.Inits[1] = x.Inits[0] },
		func(x *api.Test) { x.Threads[0][0].Op = 10 },
		func(x *api.Test) { x.Threads[0][0].Src = "EAX" },
		func(x *api.Test) { x.Threads[1][0].Src = "x" },
		func(x *api.Test) { x.Threads[1][0].Loc = "" },
		func(x *api.Test) {
			for _, s := range someRegs() {
				x.Threads[1] = append(x.Threads[1], api.Instr{Op: api.OMovImm, Reg: s})
			}
		},
		func(x *api.Test) { x.Threads[2] = slices.Repeat([]api.Instr{{Op: api.OFence}}, 64) },
		func(x *api.Test) {
			for i := range 16 {
				x.Inits = append(x.Inits, api.Init{Ref: loc(fmt.Sprint("l", i))})
			}
		},
		func(x *api.Test) { x.Watch = append(x.Watch, reg(2, "EAX")) },
		func(x *api.Test) { x.Watch = append(x.Watch, x.Watch[0]) },
		func(x *api.Test) { x.Cond = nil },
		func(x *api.Test) { x.Cond[0].Ref = loc("none") },
		func(x *api.Test) { x.Quant = 4 },
		func(x *api.Test) { x.Name = "1" },
		func(x *api.Test) { x.Doc = "a\nb" },
	} {
		x, r := wide(t)
		do(&x)
		_, want := prog.Check(x)
		seen[want]++
		if want == api.OK {
			t.Errorf("row %d: nothing is wrong", i)
		}
		checkRefused(t, fmt.Sprint("row ", i), x, want)
		if y, e := canon.Apply(x, r); e != want || !same(y, api.Test{}) {
			t.Errorf("row %d: Apply: %v, %d; want %d", i, y, e, want)
		}
	}
	if len(seen) < 12 {
		t.Errorf("errors seen: %v", seen)
	}
}

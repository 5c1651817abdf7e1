package canon_test

import (
	"fmt"
	"slices"
	"testing"

	"weir/api"
	"weir/canon"
	"weir/prog"
)

// told is what a test's form says of its settings, under a renaming.
func told(x api.Test, r api.Renaming) []string {
	inInstrs := named(x)
	var l []string
	for _, i := range x.Inits {
		if i.Value != 0 || !slices.Contains(inInstrs, i.Ref) {
			l = append(l, fmt.Sprint(newRef(r, i.Ref), "=", i.Value))
		}
	}
	slices.Sort(l)
	return l
}

func bareText(x api.Test, r api.Renaming) string {
	x.Name, x.Doc = "t", ""
	return renamedText(x, r, told(x, r))
}

// pairings is all ways to make some names of others.
func pairings(from, to []string) [][]api.Change {
	if len(from) != len(to) {
		return nil
	}
	var out [][]api.Change
	for _, order := range orders(len(from)) {
		l := []api.Change{}
		for i, k := range order {
			l = append(l, api.Change{From: from[i], To: to[k]})
		}
		out = append(out, l)
	}
	return out
}

// sameByHand tells whether one of all renamings makes of one test the other one, but for Name, Doc, the order of settings, and settings to 0 of what an instruction names.
func sameByHand(a, b api.Test) bool {
	if len(a.Threads) != len(b.Threads) || a.Quant != b.Quant || len(a.Watch) != len(b.Watch) || len(a.Cond) != len(b.Cond) {
		return false
	}
	want := bareText(b, api.Renaming{Threads: numbers(len(b.Threads)), Regs: make([][]api.Change, len(b.Threads))})
	aRegs, aLocs := namesOf(a)
	bRegs, bLocs := namesOf(b)
	found := false
	var regs func(r api.Renaming)
	regs = func(r api.Renaming) {
		k := len(r.Regs)
		if k == len(a.Threads) {
			for _, r.Locs = range pairings(aLocs, bLocs) {
				found = found || rightOf(a, r) && bareText(a, r) == want
			}
			return
		}
		for _, l := range pairings(aRegs[k], bRegs[r.Threads[k]]) {
			regs(api.Renaming{Threads: r.Threads, Regs: append(slices.Clone(r.Regs), l)})
		}
	}
	for _, threads := range orders(len(a.Threads)) {
		fit := true
		for k, i := range threads {
			fit = fit && len(a.Threads[k]) == len(b.Threads[i])
		}
		if fit && !found {
			regs(api.Renaming{Threads: threads})
		}
	}
	return found
}

// likened is a test that is the same but for names: renamed, with its settings in another order, some of those to 0 gone or new, another Name and Doc.
func likened(t *testing.T, roll func(int) int, x api.Test) api.Test {
	t.Helper()
	x = underOf(t, x, someRenaming(roll, x))
	x.Name, x.Doc = pick(roll, someLocs()), pick(roll, []string{"", "another doc"})
	free := named(x)
	var l []api.Init
	for _, i := range x.Inits {
		if i.Value != 0 || !slices.Contains(free, i.Ref) || roll(2) > 0 {
			l = append(l, i)
		}
	}
	for _, r := range free {
		if !slices.ContainsFunc(x.Inits, func(i api.Init) bool { return i.Ref == r }) && !slices.ContainsFunc(l, func(i api.Init) bool { return i.Ref == r }) && roll(2) > 0 {
			l = append(l, api.Init{Ref: r})
		}
	}
	x.Inits = some(roll, l, len(l))
	return x
}

// changed is a test with one small thing otherwise; it may not be a test any more.
func changed(roll func(int) int, x api.Test) api.Test {
	x = even(x).(api.Test)
	k := roll(len(x.Threads))
	l := x.Threads[k]
	switch n := roll(9); {
	case n == 0 && len(l) > 1:
		i := roll(len(l) - 1)
		l[i], l[i+1] = l[i+1], l[i]
	case n == 1 && len(l) > 0:
		x.Threads[k] = l[1:]
	case n == 2 && len(l) > 0:
		i, other := roll(len(l)), pick(roll, l)
		if other.Loc != "" && l[i].Loc != "" {
			l[i].Loc = other.Loc
		}
	case n == 3 && len(l) > 0:
		i, other := roll(len(l)), pick(roll, l)
		if other.Reg != "" && l[i].Reg != "" {
			l[i].Reg = other.Reg
		}
	case n == 4 && len(x.Inits) > 0:
		x.Inits[roll(len(x.Inits))].Value = int64(roll(3))
	case n == 5 && len(x.Inits) > 0:
		i := roll(len(x.Inits))
		x.Inits = slices.Delete(x.Inits, i, i+1)
	case n == 6 && len(x.Watch) > 0:
		slices.Reverse(x.Watch)
	case n == 7:
		i, refs := roll(len(x.Cond)), refsOf(x)
		if x.Cond[i].Op == api.CIs {
			x.Cond[i].Ref = pick(roll, refs)
		}
	default:
		x.Quant = 1 + roll(3)
	}
	return x
}

// 27.3, W10: tests are the same just if a renaming makes one of the other.
func TestSame(t *testing.T) {
	roll := dice(273)
	seen := map[bool]int{}
	one := func(a, b api.Test) {
		t.Helper()
		want := sameByHand(a, b)
		seen[want]++
		for _, pair := range [][2]api.Test{{a, b}, {b, a}} {
			if ok, e := canon.Same(pair[0], pair[1]); e != api.OK || ok != want {
				t.Errorf("Same: %v, %d; want %v\n%s%s", ok, e, want, textOf(t, pair[0]), textOf(t, pair[1]))
			}
		}
	}
	for range 400 {
		a := someTest(t, roll, small())
		b := likened(t, roll, a)
		if !sameByHand(a, b) {
			t.Fatalf("unlike:\n%s%s", textOf(t, a), textOf(t, b))
		}
		one(a, b)
		one(a, a)
		for range 4 {
			c := changed(roll, b)
			if _, e := prog.Check(c); e == api.OK {
				one(a, c)
			}
		}
	}
	if seen[true] < 1000 || seen[false] < 400 {
		t.Errorf("pairs: %v", seen)
	}
}

// 27.3: the differences that count, and those that don't.
func TestSameParts(t *testing.T) {
	settings, threads, rest := "x=1; 0:EAX=0; z=0", []string{"MOV EAX,[x]; MOV [y],EAX", "MOV [x],$2"}, "locations [y; 0:EAX;] exists 0:EAX=1 /\\ y=2"
	x := of(t, settings, threads, rest)
	for what, c := range map[string]struct {
		y    api.Test
		want bool
	}{
		"itself":                                   {x, true},
		"settings in another order":                {of(t, "z=0; 0:EAX=0; x=1", threads, rest), true},
		"no setting to 0":                          {of(t, "x=1; z=0", threads, rest), true},
		"one more setting to 0":                    {of(t, settings+"; y=0", threads, rest), true},
		"another value":                            {of(t, "x=2; z=0", threads, rest), false},
		"a location less":                          {of(t, "x=1", threads, rest), false},
		"a location more":                          {of(t, settings+"; w=0", threads, rest), false},
		"a location of another value":              {of(t, "x=1; z=1", threads, rest), false},
		"a register more, to 0":                    {of(t, settings+"; 0:EBX=0", threads, rest), false},
		"other names":                              {of(t, "p=1; y=0", []string{"MOV R9,[p]; MOV [x],R9", "MOV [p],$2"}, "locations [x; 0:R9;] exists 0:R9=1 /\\ x=2"), true},
		"other threads":                            {of(t, "x=1; z=0", []string{threads[1], threads[0]}, "locations [y; 1:EAX;] exists 1:EAX=1 /\\ y=2"), true},
		"a thread more":                            {of(t, settings, append(slices.Clone(threads), ""), rest), false},
		"watched in another order":                 {of(t, settings, threads, "locations [0:EAX; y;] exists 0:EAX=1 /\\ y=2"), false},
		"watched no more":                          {of(t, settings, threads, "exists 0:EAX=1 /\\ y=2"), false},
		"a condition the other way round":          {of(t, settings, threads, "locations [y; 0:EAX;] exists y=2 /\\ 0:EAX=1"), false},
		"another quantifier":                       {of(t, settings, threads, "locations [y; 0:EAX;] ~exists 0:EAX=1 /\\ y=2"), false},
		"another value in the condition":           {of(t, settings, threads, "locations [y; 0:EAX;] exists 0:EAX=1 /\\ y=1"), false},
		"another location in the condition":        {of(t, settings, threads, "locations [y; 0:EAX;] exists 0:EAX=1 /\\ x=2"), false},
		"another value written":                    {of(t, settings, []string{threads[0], "MOV [x],$3"}, rest), false},
		"another location written":                 {of(t, settings, []string{threads[0], "MOV [y],$2"}, rest), false},
		"another kind of instruction":              {of(t, settings, []string{threads[0], "XCHG [x],EAX"}, rest), false},
		"another order of instructions, as a pair": {of(t, settings, []string{"MOV [y],EAX; MOV EAX,[x]", threads[1]}, rest), false},
	} {
		for _, pair := range [][2]api.Test{{x, c.y}, {c.y, x}} {
			if ok, e := canon.Same(pair[0], pair[1]); ok != c.want || e != api.OK {
				t.Errorf("%s: %v, %d", what, ok, e)
			}
		}
		y := c.y
		y.Name, y.Doc = "other", "a doc"
		if ok, e := canon.Same(x, y); ok != c.want || e != api.OK {
			t.Errorf("%s and other words: %v, %d", what, ok, e)
		}
	}
}

// classesOf is the places of tests whose least forms have one text.
func classesOf(t *testing.T, l []api.Test) [][]int {
	t.Helper()
	var texts []string
	for _, x := range l {
		f, _, _ := leastForm(t, x)
		texts = append(texts, textOf(t, f))
	}
	var out [][]int
	for i, s := range texts {
		if slices.Index(texts, s) < i {
			continue
		}
		var class []int
		for k, other := range texts {
			if s == other {
				class = append(class, k)
			}
		}
		out = append(out, class)
	}
	return out
}

// 27.3: lists in which tests stand again under other names.
func TestClasses(t *testing.T) {
	roll := dice(31)
	known := knownTests(t)
	for n := range 120 {
		var bases, l []api.Test
		for range 1 + roll(8) {
			bases = append(bases, someTest(t, roll, small()), pick(roll, known))
		}
		for range n / 2 {
			l = append(l, likened(t, roll, pick(roll, bases)))
		}
		got, e := canon.Classes(l)
		if want := classesOf(t, l); e != api.OK || !same(got, want) {
			t.Errorf("Classes of %d: %v, %d; want %v", n/2, got, e, want)
		}
	}
	x, mp := sb(t, "x", "y", bothNought), of(t, "", []string{"MFENCE"}, "exists true")
	if got, e := canon.Classes([]api.Test{mp, x, mp, sb(t, "y", "x", bothNought), mp, {}}[:5]); e != api.OK || !same(got, [][]int{{0, 2, 4}, {1, 3}}) {
		t.Errorf("%v, %d", got, e)
	}
	if got, e := canon.Classes(nil); e != api.OK || len(got) != 0 {
		t.Errorf("Classes of none: %v, %d", got, e)
	}
}

// 27.3: of several errors that of the first member, of a ahead of b.
func TestFirstError(t *testing.T) {
	good := sb(t, "x", "y", bothNought)
	noQuant, noName, noThreads := good, good, api.Test{}
	noQuant.Quant, noName.Name = 0, ""
	for i, c := range []struct {
		l    []api.Test
		want api.Errno
	}{
		{[]api.Test{good, good}, api.OK},
		{[]api.Test{noQuant, good}, api.ErrOp},
		{[]api.Test{good, noQuant}, api.ErrOp},
		{[]api.Test{noQuant, noName}, api.ErrOp},
		{[]api.Test{noName, noQuant}, api.ErrName},
		{[]api.Test{noThreads, noQuant}, api.ErrThreads},
		{[]api.Test{good, noThreads}, api.ErrThreads},
	} {
		if ok, e := canon.Same(c.l[0], c.l[1]); e != c.want || ok != (c.want == api.OK) {
			t.Errorf("row %d: Same: %v, %d", i, ok, e)
		}
		if l, e := canon.Classes(c.l); e != c.want || c.want != api.OK && len(l) > 0 {
			t.Errorf("row %d: Classes: %v, %d", i, l, e)
		}
		if l, e := canon.Classes(append([]api.Test{good}, c.l...)); e != c.want || c.want != api.OK && len(l) > 0 {
			t.Errorf("row %d: Classes: %v, %d", i, l, e)
		}
	}
}

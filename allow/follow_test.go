package allow_test

import (
	"fmt"
	"math"
	"slices"
	"testing"

	"weir/allow"
	"weir/api"
	"weir/odo"
	"weir/prog"
	"weir/reduce"
	"weir/sc"
)

// knownOf is what Known answers of a right program.
func knownOf(t *testing.T, kind int, p api.Prog) []api.Final {
	t.Helper()
	l, e := allow.Known(kind, p)
	if e != api.OK {
		t.Fatalf("Known(%d, %v): %d", kind, p, e)
	}
	return l
}

// plays is the final states of all weaves of a program's threads, as a list.
func plays(t *testing.T, p api.Prog) []api.Final {
	t.Helper()
	var sizes []int
	for _, l := range p.Threads {
		sizes = append(sizes, len(l))
	}
	w, e := odo.Weaves(sizes)
	if e != api.OK {
		t.Fatalf("Weaves(%v): %d", sizes, e)
	}
	var l []api.Final
	for order := range w.All() {
		f, e := sc.Play(p, order)
		if e != api.OK {
			t.Fatalf("Play(%v, %v): %d", p, order, e)
		}
		l = append(l, f)
	}
	return l
}

func within(t *testing.T, what string, a, b []api.Final) {
	t.Helper()
	for _, f := range a {
		if !slices.Contains(b, f) {
			t.Fatalf("%s: %v is none of %v", what, f, b)
		}
	}
}

// agree holds 22.4 and 22.6 to 22.8 of a program; it answers the sizes of the three sets.
func agree(t *testing.T, p api.Prog) [3]int {
	t.Helper()
	first, e := prog.Run(p)
	if e != api.OK {
		t.Fatalf("Run(%v): %d", p, e)
	}
	var sizes [3]int
	smaller := append(plays(t, p), first)
	for i, kind := range kinds() {
		l := knownOf(t, kind, p)
		if want := ends(saysKnown(t, kind, p)); !slices.Equal(l, want) {
			t.Fatalf("Known(%d, %v): %v; want %v", kind, p, l, want)
		}
		machine, axioms, e := allow.Engines(kind, p)
		if e != api.OK || !slices.Equal(axioms, l) || !slices.Equal(machine, axioms) {
			t.Fatalf("Engines(%d, %v): %v, %v, %d; Known: %v", kind, p, machine, axioms, e, l)
		}
		if lean, _, _ := reduce.Finals(kind, p, math.MaxInt); !slices.Equal(machine, lean) {
			t.Fatalf("Engines(%d, %v): %v; reduce.Finals: %v", kind, p, machine, lean)
		}
		if want := reached(t, kind, p); !slices.Equal(machine, want) {
			t.Fatalf("Engines(%d, %v): %v; the whole machine: %v", kind, p, machine, want)
		}
		if f, e := allow.Finals(known(t, kind), p); e != api.OK || !slices.Equal(f, l) {
			t.Fatalf("Finals of the model %d of %v: %v, %d; Known: %v", kind, p, f, e, l)
		}
		within(t, fmt.Sprintf("%v by %d", p, kind), smaller, l)
		if kind == api.MSC {
			within(t, fmt.Sprintf("%v by %d", p, kind), l, smaller) // what runs say and what axioms say is the same
		}
		smaller, sizes[i] = l, len(l)
	}
	return sizes
}

// parts counts programs by where the three models part.
type parts struct{ same, sc, tso, both int }

func (c *parts) add(l [3]int) {
	switch {
	case l[0] < l[1] && l[1] < l[2]:
		c.both++
	case l[0] < l[1]:
		c.sc++
	case l[1] < l[2]:
		c.tso++
	default:
		c.same++
	}
}

// 22.4, 22.6, 22.7, 22.8: programs that people know, and unruly ones.
func TestAgree(t *testing.T) {
	roll := dice(226)
	var c parts
	for _, p := range smallProgs(t, roll, 300, 1000) {
		c.add(agree(t, p))
	}
	if c.same < 200 || c.sc < 2 || c.tso < 2 {
		t.Errorf("%+v", c)
	}
}

// someShape is a thread that does something to a location and then to another one, mostly plainly, perhaps with something else ahead, between or behind: there the models part.
func someShape(roll func(int) int, own, other string) string {
	access := func(loc, reg string) string {
		return pick(roll, []string{"MOV [" + loc + "],$1", "MOV [" + loc + "],$2", "MOV " + reg + ",[" + loc + "]", "MOV " + reg + ",[" + loc + "]", "MOV [" + loc + "],$3"})
	}
	rest := func() string {
		if roll(5) > 0 {
			return ""
		}
		loc := pick(roll, []string{"x", "y"})
		return pick(roll, []string{"MFENCE", "XCHG [" + loc + "],ECX", "LOCK XADD [" + loc + "],ECX", "LOCK CMPXCHG [" + loc + "],ECX", "MOV [" + loc + "],EAX", "MOV ECX,[" + loc + "]", "MOV ECX,[" + own + "]"}) + ";"
	}
	return rest() + access(own, "EAX") + ";" + rest() + access(other, "EBX") + ";" + rest()
}

// 22.6: threads that share two locations.
func TestAgreeShapes(t *testing.T) {
	roll := dice(2261)
	var c parts
	for n := 0; n < 300; {
		threads := []string{someShape(roll, "x", "y"), someShape(roll, "y", "x")}
		if roll(4) == 0 {
			threads = append(threads, pick(roll, []string{"MOV EAX,[x]", "MOV [y],$4", "MOV EAX,[x]; MOV EBX,[y]", "XCHG [x],ECX"}))
		}
		p := of(t, pick(roll, []string{"", "0:ECX=1; 1:ECX=2", "x=1; 1:EAX=1; 0:ECX=5"}), threads...)
		if pairs(p) > 1000 {
			continue
		}
		c.add(agree(t, p))
		n++
	}
	if c.same < 60 || c.sc < 20 || c.tso < 20 || c.both < 5 {
		t.Errorf("%+v", c)
	}
}

// 22.6: two accesses a thread of each kind, with and without a fence between.
func TestAgreeTwoByTwo(t *testing.T) {
	access := func(loc string) []string {
		return []string{"MOV [" + loc + "],$1", "MOV EAX,[" + loc + "]", "XCHG [" + loc + "],EBX", "LOCK CMPXCHG [" + loc + "],ECX"}
	}
	var c parts
	for _, between := range []string{"", ";MFENCE"} {
		for _, a := range access("x") {
			for _, b := range access("y") {
				for _, d := range access("y") {
					for _, e := range access("x") {
						c.add(agree(t, of(t, "0:EBX=2; 1:EBX=3; 1:ECX=4", a+between+";"+b, d+between+";"+e)))
					}
				}
			}
		}
	}
	if c.same < 400 || c.sc < 1 || c.tso < 3 {
		t.Errorf("%+v", c)
	}
}

// valueOf is what a final state of a program has for some names.
func valueOf(t *testing.T, p api.Prog, f api.Final, names []api.Ref) []int64 {
	t.Helper()
	var l []int64
	for _, r := range names {
		i, ok := prog.Index(p, r)
		if !ok {
			t.Fatalf("no %v in %v", r, p)
		}
		l = append(l, f.V[i])
	}
	return l
}

// W3, W7: what processors are known to do and not to do: of each program values that not all models allow, or none.
func TestWellKnown(t *testing.T) {
	eax := func(thread int) api.Ref { return api.Ref{Thread: thread, Name: "EAX"} }
	ebx := func(thread int) api.Ref { return api.Ref{Thread: thread, Name: "EBX"} }
	x, y := api.Ref{Thread: -1, Name: "x"}, api.Ref{Thread: -1, Name: "y"}
	for _, c := range []struct {
		name    string
		threads []string
		refs    []api.Ref
		values  []int64
		least   int // the strongest model that allows it; 4: none does
	}{
		{"SB", []string{"MOV [x],$1; MOV EAX,[y]", "MOV [y],$1; MOV EAX,[x]"}, []api.Ref{eax(0), eax(1)}, []int64{0, 0}, api.MTSO},
		{"SB+mfences", []string{"MOV [x],$1; MFENCE; MOV EAX,[y]", "MOV [y],$1; MFENCE; MOV EAX,[x]"}, []api.Ref{eax(0), eax(1)}, []int64{0, 0}, 4},
		{"SB+mfence", []string{"MOV [x],$1; MFENCE; MOV EAX,[y]", "MOV [y],$1; MOV EAX,[x]"}, []api.Ref{eax(0), eax(1)}, []int64{0, 0}, api.MTSO},
		{"SB+xchgs", []string{"MOV EBX,$1; XCHG [x],EBX; MOV EAX,[y]", "MOV EBX,$1; XCHG [y],EBX; MOV EAX,[x]"}, []api.Ref{eax(0), eax(1)}, []int64{0, 0}, 4},
		{"SB+other locks", []string{"MOV [x],$1; LOCK XADD [z],EBX; MOV EAX,[y]", "MOV [y],$1; LOCK XADD [w],EBX; MOV EAX,[x]"}, []api.Ref{eax(0), eax(1)}, []int64{0, 0}, 4},
		{"SB+own loads", []string{"MOV [x],$1; MOV EBX,[x]; MOV EAX,[y]", "MOV [y],$1; MOV EBX,[y]; MOV EAX,[x]"}, []api.Ref{eax(0), ebx(0), eax(1), ebx(1)}, []int64{0, 1, 0, 1}, api.MTSO},
		{"MP", []string{"MOV [x],$1; MOV [y],$1", "MOV EAX,[y]; MOV EBX,[x]"}, []api.Ref{eax(1), ebx(1)}, []int64{1, 0}, api.MPSO},
		{"MP+mfence", []string{"MOV [x],$1; MFENCE; MOV [y],$1", "MOV EAX,[y]; MOV EBX,[x]"}, []api.Ref{eax(1), ebx(1)}, []int64{1, 0}, 4},
		{"LB", []string{"MOV EAX,[x]; MOV [y],$1", "MOV EAX,[y]; MOV [x],$1"}, []api.Ref{eax(0), eax(1)}, []int64{1, 1}, 4},
		{"S", []string{"MOV [x],$2; MOV [y],$1", "MOV EAX,[y]; MOV [x],$1"}, []api.Ref{eax(1), x}, []int64{1, 2}, api.MPSO},
		{"R", []string{"MOV [x],$1; MOV [y],$1", "MOV [y],$2; MOV EAX,[x]"}, []api.Ref{eax(1), y}, []int64{0, 2}, api.MTSO},
		{"2+2W", []string{"MOV [x],$1; MOV [y],$2", "MOV [y],$1; MOV [x],$2"}, []api.Ref{x, y}, []int64{1, 1}, api.MPSO},
		{"WRC", []string{"MOV [x],$1", "MOV EAX,[x]; MOV [y],$1", "MOV EAX,[y]; MOV EBX,[x]"}, []api.Ref{eax(1), eax(2), ebx(2)}, []int64{1, 1, 0}, 4},
		{"IRIW", []string{"MOV [x],$1", "MOV [y],$1", "MOV EAX,[x]; MOV EBX,[y]", "MOV EAX,[y]; MOV EBX,[x]"}, []api.Ref{eax(2), ebx(2), eax(3), ebx(3)}, []int64{1, 0, 1, 0}, 4},
		{"CoRR", []string{"MOV [x],$1", "MOV EAX,[x]; MOV EBX,[x]"}, []api.Ref{eax(1), ebx(1)}, []int64{1, 0}, 4},
		{"CoWW", []string{"MOV [x],$1; MOV [x],$2"}, []api.Ref{x}, []int64{1}, 4},
		{"CoWR", []string{"MOV [x],$1; MOV EAX,[x]", "MOV [x],$2"}, []api.Ref{eax(0), x}, []int64{2, 1}, 4},
		{"n6", []string{"MOV [x],$1; MOV EAX,[x]; MOV EBX,[y]", "MOV [y],$2; MOV [x],$2"}, []api.Ref{eax(0), ebx(0), x}, []int64{1, 0, 1}, api.MTSO},
		{"n5", []string{"MOV [x],$1; MOV EAX,[x]", "MOV [x],$2; MOV EAX,[x]"}, []api.Ref{eax(0), eax(1)}, []int64{2, 1}, 4},
		{"two sums", []string{"MOV EAX,$1; LOCK XADD [x],EAX", "MOV EAX,$1; LOCK XADD [x],EAX"}, []api.Ref{x}, []int64{1}, 4},
		{"two tries", []string{"MOV EBX,$1; LOCK CMPXCHG [x],EBX", "MOV EBX,$2; LOCK CMPXCHG [x],EBX"}, []api.Ref{eax(0), eax(1)}, []int64{0, 0}, 4},
		{"try behind a store", []string{"MOV [x],$1; MOV [y],$1", "MOV EAX,$1; LOCK CMPXCHG [y],EBX; MOV EBX,[x]"}, []api.Ref{eax(1), ebx(1), y}, []int64{1, 0, 0}, api.MPSO},
	} {
		p := of(t, "", c.threads...)
		agree(t, p)
		for _, kind := range kinds() {
			allowed := slices.ContainsFunc(knownOf(t, kind, p), func(f api.Final) bool { return slices.Equal(valueOf(t, p, f, c.refs), c.values) })
			if allowed != (kind >= c.least) {
				t.Errorf("%s by %d: %v", c.name, kind, allowed)
			}
		}
	}
}

// 22.7: candidate by candidate, what a stronger model allows a weaker one does.
func TestWeaker(t *testing.T) {
	roll := dice(2227)
	for _, p := range smallProgs(t, roll, 150, 300) {
		var stronger []string
		for i, kind := range kinds() {
			var weaker []string
			for x := range eachOf(t, known(t, kind), p) {
				weaker = append(weaker, told(x))
			}
			if len(weaker) == 0 || i > 0 && slices.ContainsFunc(stronger, func(x string) bool { return !slices.Contains(weaker, x) }) {
				t.Fatalf("%d allows %v of %v; the stronger one %v", kind, weaker, p, stronger)
			}
			stronger = weaker
		}
	}
}

// 22.9: a check more, wherever it stands, allows no more; without checks all is allowed.
func TestMoreChecks(t *testing.T) {
	roll := dice(2229)
	fewer := 0
	for _, p := range smallProgs(t, roll, 200, 200) {
		m := someChecks(t, roll)
		more := api.Model{Name: m.Name, Rules: slices.Clone(m.Rules)}
		rules := parsed(t, "t "+pick(roll, []string{"acyclic po | rf", "empty rfe", "irreflexive fr ; rf", "empty co ; co", "acyclic po | rf | co | fr", "empty R"})).Rules
		more.Rules = slices.Insert(more.Rules, roll(len(more.Rules)+1), rules...)
		a, b := tells(slices.Collect(eachOf(t, m, p))), tells(slices.Collect(eachOf(t, more, p)))
		if slices.ContainsFunc(b, func(x string) bool { return !slices.Contains(a, x) }) {
			t.Fatalf("%v allows more of %v than %v: %v, %v", more, p, m, b, a)
		}
		if len(b) < len(a) {
			fewer++
		}
		f, _ := allow.Finals(m, p)
		g, _ := allow.Finals(more, p)
		within(t, fmt.Sprint(more, p), g, f)
		all := candidates(t, p)
		for _, free := range []api.Model{{Name: "t"}, parsed(t, "t let a = po let b = a ; rf let c = 0 let d = W")} {
			if n, k, e := allow.Count(free, p); n != len(all) || k != n || e != api.OK {
				t.Fatalf("Count(%v, %v): %d, %d, %d; want %d", free, p, n, k, e, len(all))
			}
			if !slices.Equal(tells(slices.Collect(eachOf(t, free, p))), tells(all)) {
				t.Fatalf("Each(%v, %v)", free, p)
			}
		}
	}
	if fewer < 50 {
		t.Errorf("%d models that allow fewer", fewer)
	}
}

// 22.6: greater programs, of some thousand candidates each.
func TestAgreeGreater(t *testing.T) {
	for _, threads := range [][]string{
		{"MOV [x],$1; MOV EAX,[y]; MOV EBX,[z]", "MOV [y],$1; MOV EAX,[z]; MOV EBX,[x]", "MOV [z],$1; MOV EAX,[x]; MOV EBX,[y]"},
		{"MOV [x],$1; MOV [y],$1; MOV EAX,[x]", "MOV [y],$2; MOV [x],$2; MOV EAX,[y]", "MOV EAX,[x]; MOV EBX,[y]"},
		{"MOV [x],$1", "MOV [x],$2", "MOV EAX,[x]; MOV EBX,[x]; MOV ECX,[y]", "MOV [y],$1; MOV EAX,[x]"},
		{"MOV EAX,$1; LOCK XADD [x],EAX", "MOV EAX,$2; LOCK XADD [x],EAX", "MOV EAX,$4; LOCK XADD [x],EAX", "MOV EAX,[x]"},
		{"MOV EBX,$1; LOCK CMPXCHG [x],EBX; MOV [y],$1", "MOV EBX,$2; LOCK CMPXCHG [x],EBX; MOV EAX,[y]", "MOV EBX,$3; LOCK CMPXCHG [x],EBX"},
		{"MOV [x],$1; XCHG [y],EAX; MOV EBX,[z]", "MOV [z],$1; MFENCE; MOV EAX,[y]; MOV EBX,[x]", "MOV [y],$2; MOV EAX,[x]"},
	} {
		agree(t, of(t, "0:EAX=7", threads...))
	}
}

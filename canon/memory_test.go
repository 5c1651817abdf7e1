package canon_test

import (
	"slices"
	"testing"

	"weir/api"
	"weir/canon"
)

// roomy is a test whose lists have spare room, with something in it.
func roomy(x api.Test) api.Test {
	x.Inits = append(slices.Clone(x.Inits), api.Init{Value: 7}, api.Init{Value: 8})[:len(x.Inits)]
	x.Watch = append(slices.Clone(x.Watch), reg(7, "spare"), reg(8, "spare"))[:len(x.Watch)]
	x.Cond = append(slices.Clone(x.Cond), api.Node{Op: 7}, api.Node{Op: 8})[:len(x.Cond)]
	threads := [][]api.Instr{}
	for _, l := range x.Threads {
		threads = append(threads, append(slices.Clone(l), api.Instr{Op: 7}, api.Instr{Op: 8})[:len(l)])
	}
	x.Threads = append(threads, []api.Instr{{Op: 7}}, nil)[:len(threads)]
	return x
}

func roomyNames(r api.Renaming) api.Renaming {
	r.Threads = append(slices.Clone(r.Threads), 7, 8)[:len(r.Threads)]
	r.Locs = append(slices.Clone(r.Locs), api.Change{From: "spare"})[:len(r.Locs)]
	regs := [][]api.Change{}
	for _, l := range r.Regs {
		regs = append(regs, append(slices.Clone(l), api.Change{From: "spare"})[:len(l)])
	}
	r.Regs = append(regs, []api.Change{{From: "spare"}})[:len(regs)]
	return r
}

// whole and wholeNames are copies, with what lies in the spare room of the lists.
func whole(x api.Test) api.Test {
	x.Inits, x.Watch, x.Cond = x.Inits[:cap(x.Inits)], x.Watch[:cap(x.Watch)], x.Cond[:cap(x.Cond)]
	x.Threads = slices.Clone(x.Threads[:cap(x.Threads)])
	for k, l := range x.Threads {
		x.Threads[k] = l[:cap(l)]
	}
	return even(x).(api.Test)
}

func wholeNames(r api.Renaming) api.Renaming {
	r.Threads, r.Locs = r.Threads[:cap(r.Threads)], r.Locs[:cap(r.Locs)]
	r.Regs = slices.Clone(r.Regs[:cap(r.Regs)])
	for k, l := range r.Regs {
		r.Regs[k] = l[:cap(l)]
	}
	return even(r).(api.Renaming)
}

// spoil overwrites a list, its spare room too.
func spoil[T any](l []T, v T) {
	l = l[:cap(l)]
	for i := range l {
		l[i] = v
	}
}

func spoilTest(x api.Test) {
	spoil(x.Inits, api.Init{Value: 99})
	spoil(x.Watch, api.Ref{Thread: 99})
	spoil(x.Cond, api.Node{Op: 99})
	for _, l := range x.Threads[:cap(x.Threads)] {
		spoil(l, api.Instr{Op: 99})
	}
	spoil(x.Threads, nil)
}

func spoilNames(r api.Renaming) {
	spoil(r.Threads, 99)
	spoil(r.Locs, api.Change{To: "spoilt"})
	for _, l := range r.Regs[:cap(r.Regs)] {
		spoil(l, api.Change{To: "spoilt"})
	}
	spoil(r.Regs, nil)
}

// apart tells whether overwriting each list of an answer leaves all the others as they were: they share no memory.
func apart(x api.Test, r api.Renaming) bool {
	for n := range 5 + len(x.Threads) + len(r.Regs) {
		a, b := even(x).(api.Test), even(r).(api.Renaming)
		saved, names := whole(x), wholeNames(r)
		switch k := n - 5; {
		case n == 0:
			spoil(x.Inits, api.Init{Value: 99})
			a.Inits = x.Inits
		case n == 1:
			spoil(x.Watch, api.Ref{Thread: 99})
			a.Watch = x.Watch
		case n == 2:
			spoil(x.Cond, api.Node{Op: 99})
			a.Cond = x.Cond
		case n == 3:
			spoil(r.Threads, 99)
			b.Threads = r.Threads
		case n == 4:
			spoil(r.Locs, api.Change{To: "spoilt"})
			b.Locs = r.Locs
		case k < len(x.Threads):
			spoil(x.Threads[k], api.Instr{Op: 99})
			a.Threads[k] = x.Threads[k]
		default:
			k -= len(x.Threads)
			spoil(r.Regs[k], api.Change{To: "spoilt"})
			b.Regs[k] = r.Regs[k]
		}
		if !same(x, a) || !same(r, b) {
			return false
		}
		restore(x, saved)
		restoreNames(r, names)
	}
	return true
}

func restore(x, from api.Test) {
	copy(x.Inits[:cap(x.Inits)], from.Inits)
	copy(x.Watch[:cap(x.Watch)], from.Watch)
	copy(x.Cond[:cap(x.Cond)], from.Cond)
	for k, l := range x.Threads {
		copy(l[:cap(l)], from.Threads[k])
	}
}

func restoreNames(r, from api.Renaming) {
	copy(r.Threads[:cap(r.Threads)], from.Threads)
	copy(r.Locs[:cap(r.Locs)], from.Locs)
	for k, l := range r.Regs {
		copy(l[:cap(l)], from.Regs[k])
	}
}

// R4: nothing that is handed in is changed, or kept; what is handed out is new memory.
func TestMemory(t *testing.T) {
	roll := dice(4)
	for i := range 600 {
		x := roomy(someTest(t, roll, []size{large(), small()}[i%2]))
		r := roomyNames(someRenaming(roll, x))
		switch i % 5 {
		case 3:
			x.Quant = 0
		case 4:
			r.Threads[0] = -1
		}
		before, names, again := whole(x), wholeNames(r), even(x).(api.Test)
		under, e := canon.Apply(x, r)
		f, by, fe := canon.Form(x)
		canon.Orders(x)
		canon.Same(x, x)
		tests := []api.Test{x, x}
		canon.Classes(append(tests, api.Test{Name: "spare"})[:2])
		if !same(whole(x), before) || !same(wholeNames(r), names) {
			t.Fatalf("%v or %v was changed", x, r)
		}
		keepUnder, keepF, keepBy := even(under), even(f), even(by)
		spoilTest(x)
		spoilNames(r)
		if !same(under, keepUnder) || !same(f, keepF) || !same(by, keepBy) {
			t.Fatalf("%v, %v or %v changed with what was handed in", under, f, by)
		}
		if !apart(under, api.Renaming{}) || !apart(f, by) {
			t.Fatalf("lists of %v, or of %v and %v, share memory", under, f, by)
		}
		spoilTest(f)
		spoilNames(by)
		if g, by, e := canon.Form(again); e != fe || !same(g, keepF) || !same(by, keepBy) {
			t.Fatalf("Form(%v): %v, %v, %d", again, g, by, e)
		}
		if fe == api.OK && !same(under, keepUnder) || e != api.OK && !same(under, api.Test{}) {
			t.Fatalf("%v changed with another answer", under)
		}
	}
}

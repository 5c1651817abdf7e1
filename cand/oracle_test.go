package cand_test

import (
	"cmp"
	"fmt"
	"math/big"
	"slices"
	"testing"

	"weir/api"
	"weir/event"
)

// cell is a value, or none yet.
type cell struct {
	v  int64
	ok bool
}

// walked is what a walk through a program finds.
type walked struct {
	values []cell
	regs   [][]cell
	agree  bool
}

// walk goes through the threads once: what reads read is what a walk ahead of it found.
func walk(p api.Prog, l []api.Event, from []int, was []cell) walked {
	w := walked{values: make([]cell, len(l)), agree: true}
	for i, v := range p.LocInit {
		w.values[i] = cell{v, true}
	}
	at := len(p.Locs)
	mine := func(thread, index, kind int) (int, bool) {
		if at < len(l) && l[at].Thread == thread && l[at].Index == index && l[at].Kind == kind {
			at++
			return at - 1, true
		}
		return 0, false
	}
	for thread, ops := range p.Threads {
		var regs []cell
		for _, v := range p.RegInit[thread] {
			regs = append(regs, cell{v, true})
		}
		for index, op := range ops {
			var read cell
			if place, ok := mine(thread, index, api.ERead); ok {
				read = was[from[place]]
				w.values[place] = read
			}
			place, writes := mine(thread, index, api.EWrite)
			var write cell
			switch op.Kind {
			case api.OMovImm:
				regs[op.Reg] = cell{op.Imm, true}
			case api.OMovReg:
				regs[op.Reg] = regs[op.Src]
			case api.OLoad:
				regs[op.Reg] = read
			case api.OStoreImm:
				write = cell{op.Imm, true}
			case api.OStoreReg:
				write = regs[op.Src]
			case api.OFence:
				fence, _ := mine(thread, index, api.EFence)
				w.values[fence] = cell{0, true}
			case api.OXchg:
				write = regs[op.Reg]
				regs[op.Reg] = read
			case api.OXadd:
				write = cell{read.v + regs[op.Reg].v, read.ok && regs[op.Reg].ok}
				regs[op.Reg] = read
			case api.OCmpxchg:
				w.agree = w.agree && (read.v == regs[op.Reg].v) == writes
				if write = regs[op.Src]; !writes {
					regs[op.Reg] = read
				}
			}
			if writes {
				w.values[place] = write
			}
		}
		w.regs = append(w.regs, regs)
	}
	return w
}

// saysChoice is the chapter's words on a choice of reads.
func saysChoice(l []api.Event, from []int) bool {
	if len(from) != len(l) {
		return false
	}
	for i, e := range l {
		w := from[i]
		if e.Kind != api.ERead {
			if w != -1 {
				return false
			}
			continue
		}
		if w < 0 || w >= len(l) || l[w].Loc != e.Loc || l[w].Kind != api.EInit && l[w].Kind != api.EWrite {
			return false
		}
	}
	return true
}

// saysValues finds values by walks, of which each goes on from the last one, so many that nothing is found any more.
func saysValues(p api.Prog, fails api.Set, from []int) ([]int64, [][]int64, bool) {
	l, e := event.List(p, fails)
	if e != api.OK || !saysChoice(l, from) {
		return nil, nil, false
	}
	w := walked{values: make([]cell, len(l))}
	for range len(l) + 1 {
		w = walk(p, l, from, w.values)
	}
	var values []int64
	for _, c := range w.values {
		if !c.ok {
			return nil, nil, false
		}
		values = append(values, c.v)
	}
	var regs [][]int64
	for _, cells := range w.regs {
		var thread []int64
		for _, c := range cells {
			thread = append(thread, c.v)
		}
		regs = append(regs, thread)
	}
	return values, regs, w.agree
}

// writesTo is the places of the writes to a location.
func writesTo(l []api.Event, loc int) []int {
	var places []int
	for i, e := range l {
		if e.Loc == loc && (e.Kind == api.EInit || e.Kind == api.EWrite) {
			places = append(places, i)
		}
	}
	return places
}

// saysSpace is how many pairs there are, however many that is.
func saysSpace(p api.Prog, l []api.Event) *big.Int {
	n := big.NewInt(1)
	for _, e := range l {
		if e.Kind == api.ERead {
			n.Mul(n, big.NewInt(int64(len(writesTo(l, e.Loc)))))
		}
	}
	for loc := range p.Locs {
		n.Mul(n, new(big.Int).MulRange(1, int64(len(writesTo(l, loc))-1)))
	}
	return n
}

// pairs is how many pairs there are, of all fails; a great number, if they are many.
func pairs(p api.Prog) int {
	n, _ := event.Tries(p)
	if n > 10 {
		return 1 << 30
	}
	sum := new(big.Int)
	for fails := range api.Set(1) << n {
		l, _ := event.List(p, fails)
		sum.Add(sum, saysSpace(p, l))
	}
	if sum.BitLen() > 30 {
		return 1 << 30
	}
	return int(sum.Int64())
}

// lists is all lists of which each member is one of the options at its place, in no order that is promised.
func lists[T any](options [][]T) [][]T {
	all := [][]T{{}}
	for _, l := range options {
		var longer [][]T
		for _, o := range l {
			for _, a := range all {
				longer = append(longer, append(slices.Clone(a), o))
			}
		}
		all = longer
	}
	return all
}

// mixes is all orders of a list.
func mixes(l []int) [][]int {
	if len(l) == 0 {
		return [][]int{{}}
	}
	var all [][]int
	for i := range l {
		for _, rest := range mixes(slices.Delete(slices.Clone(l), i, i+1)) {
			all = append(all, append(rest, l[i]))
		}
	}
	return all
}

// saysAll is all candidates, made anyhow, then sorted.
func saysAll(p api.Prog) []api.Exec {
	n, _ := event.Tries(p)
	var all []api.Exec
	for fails := range api.Set(1) << n {
		l, _ := event.List(p, fails)
		var reads [][]int
		for _, e := range l {
			if e.Kind == api.ERead {
				reads = append(reads, writesTo(l, e.Loc))
			} else {
				reads = append(reads, []int{-1})
			}
		}
		var writes [][][]int
		for loc := range p.Locs {
			to := writesTo(l, loc)
			var orders [][]int
			for _, o := range mixes(to[1:]) {
				orders = append(orders, append([]int{to[0]}, o...))
			}
			writes = append(writes, orders)
		}
		var these []api.Exec
		for _, from := range lists(reads) {
			values, regs, ok := saysValues(p, fails, from)
			if !ok {
				continue
			}
			for _, order := range lists(writes) {
				these = append(these, api.Exec{Events: l, Values: values, From: from, Order: order, Regs: regs})
			}
		}
		slices.SortFunc(these, byChoices)
		all = append(all, these...)
	}
	return all
}

// byChoices compares executions of the same events.
func byChoices(a, b api.Exec) int {
	return cmp.Or(slices.Compare(a.From, b.From), slices.CompareFunc(a.Order, b.Order, slices.Compare))
}

// say is an execution as a text: lists that are nil and lists that are empty are the same.
func say(x api.Exec) string { return fmt.Sprintf("%v", x) }

// saysEnd is the final state of a candidate.
func saysEnd(x api.Exec) api.Final {
	var f api.Final
	for _, l := range x.Regs {
		for _, v := range l {
			f.V[f.N] = v
			f.N++
		}
	}
	for _, l := range x.Order {
		for i, place := range l {
			if i == len(l)-1 {
				f.V[f.N] = x.Values[place]
				f.N++
			}
		}
	}
	return f
}

// hold is one value of memory, and which event wrote it, told by thread and instruction.
type hold struct {
	v             int64
	thread, index int
}

// saysRun plays a weave in a memory that remembers who has written.
func saysRun(t *testing.T, p api.Prog, order []int) api.Exec {
	t.Helper()
	var mem []hold
	for _, v := range p.LocInit {
		mem = append(mem, hold{v, -1, 0})
	}
	var regs [][]int64
	for _, l := range p.RegInit {
		regs = append(regs, slices.Clone(l))
	}
	pc := make([]int, len(p.Threads))
	reads, did := map[[2]int]hold{}, map[[2]int]int64{} // by thread and instruction: what it read, what it wrote
	var turns [][2]int
	for _, i := range order {
		op := p.Threads[i][pc[i]]
		me := [2]int{i, pc[i]}
		turns = append(turns, me)
		put := func(v int64) {
			mem[op.Loc] = hold{v, me[0], me[1]}
			did[me] = v
		}
		get := func() int64 {
			reads[me] = mem[op.Loc]
			return mem[op.Loc].v
		}
		r := regs[i]
		switch op.Kind {
		case api.OMovImm:
			r[op.Reg] = op.Imm
		case api.OMovReg:
			r[op.Reg] = r[op.Src]
		case api.OLoad:
			r[op.Reg] = get()
		case api.OStoreImm:
			put(op.Imm)
		case api.OStoreReg:
			put(r[op.Src])
		case api.OXchg:
			v := get()
			put(r[op.Reg])
			r[op.Reg] = v
		case api.OXadd:
			v := get()
			put(v + r[op.Reg])
			r[op.Reg] = v
		case api.OCmpxchg:
			if v := get(); v == r[op.Reg] {
				put(r[op.Src])
			} else {
				r[op.Reg] = v
			}
		}
		pc[i]++
	}
	return saysWhole(p, turns, reads, did, regs)
}

// saysWhole is the execution of what a run has done.
func saysWhole(p api.Prog, turns [][2]int, reads map[[2]int]hold, did map[[2]int]int64, regs [][]int64) api.Exec {
	var fails api.Set
	try := 0
	for i, ops := range p.Threads {
		for k, op := range ops {
			if op.Kind == api.OCmpxchg {
				if _, ok := did[[2]int{i, k}]; !ok {
					fails |= 1 << try
				}
				try++
			}
		}
	}
	l, _ := event.List(p, fails)
	x := api.Exec{Events: l, Regs: regs}
	where := func(kind, thread, index, loc int) int {
		return slices.IndexFunc(l, func(e api.Event) bool {
			return e.Kind == kind && e.Thread == thread && e.Index == index && e.Loc == loc
		})
	}
	for _, e := range l {
		from, v := -1, int64(0)
		switch e.Kind {
		case api.EInit:
			v = p.LocInit[e.Loc]
		case api.EWrite:
			v = did[[2]int{e.Thread, e.Index}]
		case api.ERead:
			h := reads[[2]int{e.Thread, e.Index}]
			v = h.v
			if from = where(api.EWrite, h.thread, h.index, e.Loc); h.thread == -1 {
				from = where(api.EInit, -1, 0, e.Loc)
			}
		}
		x.From, x.Values = append(x.From, from), append(x.Values, v)
	}
	for loc := range p.Locs {
		order := []int{where(api.EInit, -1, 0, loc)}
		for _, me := range turns {
			if w := where(api.EWrite, me[0], me[1], loc); w >= 0 {
				order = append(order, w)
			}
		}
		x.Order = append(x.Order, order)
	}
	return x
}

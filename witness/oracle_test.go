package witness_test

import (
	"fmt"
	"slices"
	"strings"
	"testing"

	"weir/api"
	"weir/axiom"
	"weir/cand"
)

// cell is a write: who has written, and what.
type cell struct {
	loc   int
	value int64
	by    string // the thread and the instruction, as 1.0; i for an initial write
}

// player plays picks by the words of chapters 11 to 13 and 24, and keeps for each value who has written it.
type player struct {
	kind      int
	p         api.Prog
	pc, phase []int
	regs      [][]int64
	buf       [][]cell // of each thread, the oldest first, whatever the model
	mem       [][]cell // of each location all writes that are done
	lock      int
	reads     map[string]cell // by who reads, what is read
	writes    map[string]cell // by who writes
	story     string
}

func newPlayer(kind int, p api.Prog) *player {
	n := len(p.Threads)
	y := &player{kind: kind, p: p, pc: make([]int, n), phase: make([]int, n), buf: make([][]cell, n), lock: -1, reads: map[string]cell{}, writes: map[string]cell{}}
	for _, l := range p.RegInit {
		y.regs = append(y.regs, slices.Clone(l))
	}
	for loc, v := range p.LocInit {
		y.mem = append(y.mem, []cell{{loc, v, "i"}})
	}
	return y
}

func (y *player) tell(thread int, words ...any) {
	y.story += fmt.Sprint(thread) + ": " + fmt.Sprint(words...) + "\n"
}

func (y *player) cellText(c cell) string { return y.p.Locs[c.loc] + "=" + fmt.Sprint(c.value) }

// sees is the write that a thread sees at a location.
func (y *player) sees(thread, loc int) cell {
	for i := len(y.buf[thread]) - 1; i >= 0; i-- {
		if c := y.buf[thread][i]; c.loc == loc {
			return c
		}
	}
	return y.mem[loc][len(y.mem[loc])-1]
}

// take does a pick; false: it can't be done.
func (y *player) take(k api.Pick) bool {
	i := k.Thread
	if i < 0 || i >= len(y.pc) {
		return false
	}
	switch {
	case k.Kind == api.PFlush && y.kind != api.MSC:
		return y.flush(i, k.Loc)
	case k.Kind == api.PStep && k.Loc == 0 && y.pc[i] < len(y.p.Threads[i]):
		return y.step(i, y.p.Threads[i][y.pc[i]])
	}
	return false
}

func (y *player) flush(i, loc int) bool {
	if y.lock != -1 && y.lock != i {
		return false
	}
	for at, c := range y.buf[i] {
		if y.kind == api.MTSO && loc != 0 || y.kind == api.MPSO && c.loc != loc {
			continue
		}
		y.buf[i] = slices.Delete(slices.Clone(y.buf[i]), at, at+1)
		y.mem[c.loc] = append(y.mem[c.loc], c)
		y.tell(i, y.cellText(c), " reaches memory")
		return true
	}
	return false
}

// instruction is the text of the next instruction, by the words of chapter 8.
func (y *player) instruction(i int) string {
	op := y.p.Threads[i][y.pc[i]]
	name := func(n int) string {
		if n < len(y.p.Regs[i]) {
			return y.p.Regs[i][n]
		}
		return "none"
	}
	at := "none"
	if op.Loc < len(y.p.Locs) {
		at = "[" + y.p.Locs[op.Loc] + "]"
	}
	return [...]string{
		api.OMovImm: fmt.Sprint("MOV ", name(op.Reg), ",$", op.Imm), api.OMovReg: "MOV " + name(op.Reg) + "," + name(op.Src),
		api.OLoad: "MOV " + name(op.Reg) + "," + at, api.OStoreImm: fmt.Sprint("MOV ", at, ",$", op.Imm), api.OStoreReg: "MOV " + at + "," + name(op.Src),
		api.OFence: "MFENCE", api.OXchg: "XCHG " + at + "," + name(op.Reg),
		api.OCmpxchg: "LOCK CMPXCHG " + at + "," + name(op.Src), api.OXadd: "LOCK XADD " + at + "," + name(op.Reg),
	}[op.Kind]
}

// write lets the next instruction of a thread write; it answers how that is told.
func (y *player) write(i int, v int64) string {
	c := cell{y.p.Threads[i][y.pc[i]].Loc, v, fmt.Sprint(i, ".", y.pc[i])}
	y.writes[c.by] = c
	if y.kind == api.MSC {
		y.mem[c.loc] = append(y.mem[c.loc], c)
		return ", " + y.cellText(c) + " reaches memory"
	}
	y.buf[i] = append(y.buf[i], c)
	return ", " + y.cellText(c) + " waits"
}

// read lets the next instruction of a thread read.
func (y *player) read(i int) int64 {
	c := y.sees(i, y.p.Threads[i][y.pc[i]].Loc)
	y.reads[fmt.Sprint(i, ".", y.pc[i])] = c
	return c.value
}

func (y *player) step(i int, op api.Op) bool {
	text, regs := y.instruction(i), y.regs[i]
	switch op.Kind {
	case api.OMovImm:
		regs[op.Reg] = op.Imm
		y.tell(i, text, ", ", y.p.Regs[i][op.Reg], "=", regs[op.Reg])
	case api.OMovReg:
		regs[op.Reg] = regs[op.Src]
		y.tell(i, text, ", ", y.p.Regs[i][op.Reg], "=", regs[op.Reg])
	case api.OLoad:
		if y.lock != -1 && y.lock != i {
			return false
		}
		regs[op.Reg] = y.read(i)
		y.tell(i, text, " reads ", regs[op.Reg])
	case api.OStoreImm:
		y.tell(i, text, y.write(i, op.Imm))
	case api.OStoreReg:
		y.tell(i, text, y.write(i, regs[op.Src]))
	case api.OFence:
		if len(y.buf[i]) > 0 {
			return false
		}
		y.tell(i, text, " goes on")
	default:
		return y.locked(i, op, text)
	}
	y.pc[i]++
	return true
}

func (y *player) locked(i int, op api.Op, text string) bool {
	if y.kind == api.MSC {
		y.change(i, op, text)
		y.pc[i]++
		return true
	}
	switch y.phase[i] {
	case 0:
		if y.lock != -1 {
			return false
		}
		y.lock = i
		y.tell(i, text, " takes the lock")
	case 1:
		y.change(i, op, text)
	case 2:
		if len(y.buf[i]) > 0 {
			return false
		}
		y.lock = -1
		y.tell(i, text, " gives the lock back")
		y.phase[i] = -1
		y.pc[i]++
	}
	y.phase[i]++
	return true
}

// change is what a locked instruction does between taking the lock and giving it back.
func (y *player) change(i int, op api.Op, text string) {
	regs, v := y.regs[i], y.read(i)
	text += " reads " + fmt.Sprint(v)
	switch {
	case op.Kind == api.OXchg:
		text += y.write(i, regs[op.Reg])
		regs[op.Reg] = v
	case op.Kind == api.OXadd:
		text += y.write(i, regs[op.Reg]+v)
		regs[op.Reg] = v
	case v == regs[op.Reg]:
		text += y.write(i, regs[op.Src])
	default:
		regs[op.Reg] = v
	}
	y.tell(i, text)
}

// isTry tells whether who reads or writes is an instruction that may fail.
func (y *player) isTry(by string) bool {
	var i, n int
	fmt.Sscanf(by, "%d.%d", &i, &n)
	return y.p.Threads[i][n].Kind == api.OCmpxchg
}

// ended tells whether all is done.
func (y *player) ended() bool {
	for i, l := range y.p.Threads {
		if y.pc[i] < len(l) || len(y.buf[i]) > 0 {
			return false
		}
	}
	return true
}

// names is the names of a final state's values, and of each its value.
func (y *player) names() ([]string, []int64) {
	var names []string
	var values []int64
	for i, l := range y.p.Regs {
		for k, s := range l {
			names, values = append(names, fmt.Sprint(i, ":", s)), append(values, y.regs[i][k])
		}
	}
	for loc, s := range y.p.Locs {
		l := y.mem[loc]
		names, values = append(names, s), append(values, l[len(l)-1].value)
	}
	return names, values
}

// final is the final state, if all is done.
func (y *player) final() api.Final {
	_, values := y.names()
	return final(values...)
}

// told is the story so far.
func (y *player) told() string {
	if !y.ended() {
		return y.story
	}
	names, values := y.names()
	var l []string
	for i, s := range names {
		l = append(l, fmt.Sprint(s, "=", values[i], ";"))
	}
	return y.story + "end: " + strings.Join(l, " ") + "\n"
}

// exec is the execution of the run, laid out by the words of chapters 17 and 18.
func (y *player) exec() api.Exec {
	x := api.Exec{Regs: y.regs}
	places := map[string]int{}
	add := func(name string, e api.Event, v int64) {
		places[name] = len(x.Events)
		x.Events, x.Values, x.From = append(x.Events, e), append(x.Values, v), append(x.From, -1)
	}
	for loc, v := range y.p.LocInit {
		add(fmt.Sprint("W i ", loc), api.Event{Kind: api.EInit, Thread: -1, Loc: loc}, v)
	}
	for i, l := range y.p.Threads {
		for n, op := range l {
			by, locked := fmt.Sprint(i, ".", n), op.Kind >= api.OXchg
			if c, ok := y.reads[by]; ok {
				add("R "+by, api.Event{Kind: api.ERead, Thread: i, Index: n, Loc: op.Loc, Locked: locked}, c.value)
			}
			if c, ok := y.writes[by]; ok {
				add(fmt.Sprint("W ", by, " ", op.Loc), api.Event{Kind: api.EWrite, Thread: i, Index: n, Loc: op.Loc, Locked: locked}, c.value)
			}
			if op.Kind == api.OFence {
				add("F "+by, api.Event{Kind: api.EFence, Thread: i, Index: n, Loc: -1}, 0)
			}
		}
	}
	place := func(c cell) int { return places[fmt.Sprint("W ", c.by, " ", c.loc)] }
	for by, c := range y.reads {
		x.From[places["R "+by]] = place(c)
	}
	for _, l := range y.mem {
		var order []int
		for _, c := range l {
			order = append(order, place(c))
		}
		x.Order = append(x.Order, order)
	}
	return x
}

// played is a player behind some picks; false: it does not take them all.
func played(kind int, p api.Prog, l []api.Pick) (*player, bool) {
	y := newPlayer(kind, p)
	for _, k := range l {
		if !y.take(k) {
			return y, false
		}
	}
	return y, true
}

// saysText is an execution's text by the words of 24.6.
func saysText(p api.Prog, x api.Exec) string {
	name := func(i int) string {
		e, star := x.Events[i], ""
		if e.Locked {
			star = "*"
		}
		switch e.Kind {
		case api.EInit:
			return "i:" + p.Locs[e.Loc]
		case api.EFence:
			return fmt.Sprintf("%d:%d:F", e.Thread, e.Index)
		case api.ERead:
			return fmt.Sprintf("%d:%d:R%s%s", e.Thread, e.Index, p.Locs[e.Loc], star)
		}
		return fmt.Sprintf("%d:%d:W%s%s", e.Thread, e.Index, p.Locs[e.Loc], star)
	}
	s := ""
	for i, e := range x.Events {
		s += name(i)
		if e.Kind != api.EFence {
			s += fmt.Sprint("=", x.Values[i])
		}
		if e.Kind == api.ERead {
			s += " <- " + name(x.From[i])
		}
		s += "\n"
	}
	for _, l := range x.Order {
		if len(l) == 1 {
			continue
		}
		s += "co:"
		for n, w := range l {
			if n > 0 {
				s += " <"
			}
			s += " " + name(w)
		}
		s += "\n"
	}
	return s
}

// endOf is a candidate's final state: what registers have, and what the last write to each location wrote.
func endOf(x api.Exec) api.Final {
	var l []int64
	for _, regs := range x.Regs {
		l = append(l, regs...)
	}
	for _, writes := range x.Order {
		l = append(l, x.Values[writes[len(writes)-1]])
	}
	return final(l...)
}

// candidates is all candidates of a program.
func candidates(t *testing.T, p api.Prog) []api.Exec {
	t.Helper()
	it, e := cand.All(p)
	if e != api.OK {
		t.Fatalf("cand.All(%v): %d", p, e)
	}
	return slices.Collect(it)
}

// obeys tells whether an execution obeys a model.
func obeys(t *testing.T, kind int, x api.Exec) bool {
	t.Helper()
	ok, e := axiom.Holds(kind, x)
	if e != api.OK {
		t.Fatalf("axiom.Holds(%d): %d", kind, e)
	}
	return ok
}

// told is an execution as a text: a list that is empty is the same as none.
func told(x api.Exec) string { return fmt.Sprint(x) }

package witness

import (
	"weir/api"
	"weir/reduce"
)

// part is how much of an instruction a pick does.
type part int

const (
	whole part = iota // all of it; of a locked one, by a machine with a lock, what lies between its other two
	taking
	giving
	flushing // nothing: it lets a write reach memory
)

// deed is what a pick does.
type deed struct {
	thread, index int // the instruction's number, which a flush has not
	op            api.Op
	part          part
	reads, writes bool
	read          int64     // the value that is read
	write         api.Write // what is written, or, of a flush, what reaches memory
	reg           int64     // what the instruction's register has behind it
}

// trace is what a machine does by some picks, and where it is then.
type trace struct {
	deeds []deed
	final api.Final
	ended bool
}

// follow plays picks from the start of a model's machine; ErrPick: one of them can't be done.
func follow(kind int, p api.Prog, l []api.Pick) (trace, api.Errno) {
	m, e := reduce.Full(kind, p)
	if e != api.OK {
		return trace{}, e
	}
	var t trace
	text := m.Start
	before := stateOf(p, text)
	for _, k := range l { // left at the first pick that can't be done: a list may be far longer than any run
		next, ok := m.Step(text, k)
		if !ok {
			return trace{}, api.ErrPick
		}
		after := stateOf(p, next)
		if k.Kind == api.PFlush {
			t.deeds = append(t.deeds, flushOf(k.Thread, before, after))
		} else {
			t.deeds = append(t.deeds, stepOf(kind, p, k.Thread, before, after))
		}
		text, before = next, after
	}
	t.final, t.ended = m.End(text)
	return t, api.OK
}

// flushOf is what a flush has done: the write that is missing behind it stands where the buffers first part.
func flushOf(thread int, before, after api.State) deed {
	gone, left := before.Buf[thread], after.Buf[thread]
	at := 0
	for at < len(left) && gone[at] == left[at] {
		at++
	}
	return deed{thread: thread, part: flushing, write: gone[at]}
}

// stepOf is what a step has done.
func stepOf(kind int, p api.Prog, thread int, before, after api.State) deed {
	index := before.PC[thread]
	op := p.Threads[thread][index]
	d := deed{thread: thread, index: index, op: op, part: partOf(kind, op, before.Phase[thread])}
	if d.part != whole {
		return d
	}
	switch op.Kind {
	case api.OMovImm, api.OMovReg:
		d.reg = after.Regs[thread][op.Reg]
	case api.OLoad:
		d.reads = true
	case api.OStoreImm, api.OStoreReg:
		d.writes = true
	case api.OXchg, api.OXadd:
		d.reads, d.writes = true, true
	case api.OCmpxchg:
		d.reads, d.writes = true, seen(before, thread, op.Loc) == before.Regs[thread][op.Reg]
	}
	if d.reads {
		d.read = seen(before, thread, op.Loc)
	}
	if d.writes { // a thread sees at once what it has written, whether that waits or not
		d.write = api.Write{Loc: op.Loc, Value: seen(after, thread, op.Loc)}
	}
	return d
}

// partOf is the part of an instruction that a thread does by its next step.
func partOf(kind int, op api.Op, phase int) part {
	if kind == api.MSC || !isLocked(op) {
		return whole
	}
	switch phase {
	case 0:
		return taking
	case 1:
		return whole
	}
	return giving
}

func isLocked(op api.Op) bool {
	return op.Kind == api.OXchg || op.Kind == api.OCmpxchg || op.Kind == api.OXadd
}

// seen is what a thread sees at a location: its own newest write there that waits, or else what memory has.
func seen(s api.State, thread, loc int) int64 {
	v := s.Mem[loc]
	for _, w := range s.Buf[thread] {
		if w.Loc == loc {
			v = w.Value
		}
	}
	return v
}

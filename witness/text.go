package witness

import (
	"strconv"
	"strings"

	"weir/api"
	"weir/cand"
	"weir/event"
	"weir/print"
	"weir/prog"
	"weir/state"
	"weir/word"
)

// Text is an execution's text.
func Text(p api.Prog, x api.Exec) (string, api.Errno) {
	if e := cand.Check(p, x); e != api.OK {
		return "", e
	}
	var out strings.Builder
	for place := range x.Events {
		out.WriteString(eventLine(p, x, place) + "\n")
	}
	for _, writes := range x.Order {
		if len(writes) > 1 {
			out.WriteString(orderLine(p, x, writes) + "\n")
		}
	}
	return out.String(), api.OK
}

// eventLine is an event with its value, and with what it reads from.
func eventLine(p api.Prog, x api.Exec, place int) string {
	e := x.Events[place]
	line := event.Text(p, e)
	if e.Kind != api.EFence {
		line += "=" + word.Text(x.Values[place])
	}
	if e.Kind == api.ERead {
		line += " <- " + event.Text(p, x.Events[x.From[place]])
	}
	return line
}

// orderLine is the writes to a location in their order.
func orderLine(p api.Prog, x api.Exec, writes []int) string {
	var texts []string
	for _, place := range writes {
		texts = append(texts, event.Text(p, x.Events[place]))
	}
	return "co: " + strings.Join(texts, " < ")
}

// Story is what a list of picks does, line by line.
func Story(kind int, p api.Prog, l []api.Pick) (string, api.Errno) {
	t, e := follow(kind, p, l)
	if e != api.OK {
		return "", e
	}
	test, e := prog.Back(p) // its instructions have names
	if e != api.OK {
		return "", e
	}
	n := narrator{kind: kind, p: p, named: test.Threads}
	var out strings.Builder
	for _, d := range t.deeds {
		out.WriteString(strconv.Itoa(d.thread) + ": " + n.tell(d) + "\n")
	}
	if t.ended {
		text, _ := state.Text(t.final, prog.Names(p))
		out.WriteString("end: " + text + "\n")
	}
	return out.String(), api.OK
}

// narrator tells what picks do.
type narrator struct {
	kind  int
	p     api.Prog
	named [][]api.Instr
}

// tell is what a pick does, in words.
func (n narrator) tell(d deed) string {
	if d.part == flushing {
		return n.written(d.write) + " reaches memory"
	}
	line, _ := print.Instr(n.named[d.thread][d.index])
	switch {
	case d.part == taking:
		return line + " takes the lock"
	case d.part == giving:
		return line + " gives the lock back"
	case d.op.Kind == api.OFence:
		return line + " goes on"
	case d.op.Kind == api.OMovImm, d.op.Kind == api.OMovReg:
		return line + ", " + n.p.Regs[d.thread][d.op.Reg] + "=" + word.Text(d.reg)
	}
	if d.reads {
		line += " reads " + word.Text(d.read)
	}
	if d.writes {
		line += ", " + n.written(d.write) + n.whither()
	}
	return line
}

// written is a write with its location's name.
func (n narrator) written(w api.Write) string { return n.p.Locs[w.Loc] + "=" + word.Text(w.Value) }

// whither is where a write goes at its instruction's step.
func (n narrator) whither() string {
	if n.kind == api.MSC {
		return " reaches memory"
	}
	return " waits"
}

package sc

import (
	"weir/api"
	"weir/word"
)

// lastPhase is how far a thread can be within an instruction.
const lastPhase = 2

// shape is all that tells a program's states from others, so that a machine need not keep the program.
type shape struct {
	instrs, regs []int // of each thread how many
	locs         int
}

func shapeOf(p api.Prog) shape {
	z := shape{locs: len(p.Locs)}
	for i, l := range p.Threads {
		z.instrs = append(z.instrs, len(l))
		z.regs = append(z.regs, len(p.Regs[i]))
	}
	return z
}

// fits tells whether a state is one of the program.
func (z shape) fits(s api.State) bool {
	n := len(z.instrs)
	if len(s.PC) != n || len(s.Phase) != n || len(s.Regs) != n || len(s.Buf) != n || len(s.Mem) != z.locs {
		return false
	}
	for i := range n {
		if len(s.Regs[i]) != z.regs[i] || !within(s.PC[i], 0, z.instrs[i]) || !within(s.Phase[i], 0, lastPhase) || !z.fitsBuf(s.Buf[i]) {
			return false
		}
	}
	return within(s.Lock, -1, n-1)
}

// fitsBuf tells whether a buffer is one of the program's states.
func (z shape) fitsBuf(l []api.Write) bool {
	for _, w := range l {
		if !within(w.Loc, 0, z.locs-1) {
			return false
		}
	}
	return len(l) <= api.MaxEvents
}

func within[T int | int64](n, low, high T) bool { return low <= n && n <= high }

// textOf is the text of a state.
func textOf(s api.State) string {
	var text []byte
	put := func(v int64) { text = append(text, word.Put(v)...) }
	for i := range s.PC {
		put(int64(s.PC[i]))
		put(int64(s.Phase[i]))
		for _, v := range s.Regs[i] {
			put(v)
		}
	}
	for _, v := range s.Mem {
		put(v)
	}
	for _, l := range s.Buf {
		put(int64(len(l)))
		for _, w := range l {
			put(int64(w.Loc))
			put(w.Value)
		}
	}
	put(int64(s.Lock))
	return string(text)
}

// stateOf is the program's state that has a text; false: none has it.
func (z shape) stateOf(text string) (api.State, bool) {
	r := reader{text: text}
	n := len(z.instrs)
	s := api.State{PC: make([]int, n), Phase: make([]int, n), Regs: make([][]int64, n), Buf: make([][]api.Write, n)}
	for i := range n {
		s.PC[i] = r.number(0, z.instrs[i])
		s.Phase[i] = r.number(0, lastPhase)
		s.Regs[i] = r.values(z.regs[i])
	}
	s.Mem = r.values(z.locs)
	for i := range n {
		s.Buf[i] = r.writes(z.locs)
	}
	s.Lock = r.number(-1, n-1)
	if r.wrong || r.at != len(text) {
		return api.State{}, false
	}
	return s, true
}

// reader takes values from a text, one behind the other; wrong: one was not what it had to be.
type reader struct {
	text  string
	at    int
	wrong bool
}

func (r *reader) value() int64 {
	v, n, e := word.Take(r.text, r.at)
	if e != api.OK {
		r.wrong = true
	}
	r.at += n
	return v
}

// number is a value from low to high. One that is not is 0, so that nothing is done so many times.
func (r *reader) number(low, high int) int {
	v := r.value()
	if !within(v, int64(low), int64(high)) {
		r.wrong = true
		return 0
	}
	return int(v)
}

func (r *reader) values(n int) []int64 {
	l := make([]int64, n)
	for i := range l {
		l[i] = r.value()
	}
	return l
}

func (r *reader) writes(locs int) []api.Write {
	l := make([]api.Write, r.number(0, api.MaxEvents))
	for i := range l {
		l[i].Loc = r.number(0, locs-1)
		l[i].Value = r.value()
	}
	return l
}

package witness

import (
	"weir/api"
	"weir/word"
)

// codes is a text of values' codes, and how far it is read.
type codes struct {
	text string
	at   int
}

// value takes the next value.
func (c *codes) value() int64 {
	v, n, _ := word.Take(c.text, c.at) // the text is a machine's own
	c.at += n
	return v
}

// number takes the next value as an int.
func (c *codes) number() int { return int(c.value()) }

// values takes so many values.
func (c *codes) values(n int) []int64 {
	l := make([]int64, n)
	for i := range l {
		l[i] = c.value()
	}
	return l
}

// writes takes writes, ahead of which stands how many they are.
func (c *codes) writes() []api.Write {
	l := make([]api.Write, c.number())
	for i := range l {
		l[i] = api.Write{Loc: c.number(), Value: c.value()}
	}
	return l
}

// stateOf is the state of a text that a machine of the program has answered.
func stateOf(p api.Prog, text string) api.State {
	c := codes{text: text}
	var s api.State
	for _, regs := range p.Regs {
		s.PC = append(s.PC, c.number())
		s.Phase = append(s.Phase, c.number())
		s.Regs = append(s.Regs, c.values(len(regs)))
	}
	s.Mem = c.values(len(p.Locs))
	for range p.Threads {
		s.Buf = append(s.Buf, c.writes())
	}
	s.Lock = c.number()
	return s
}

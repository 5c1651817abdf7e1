package tso

import (
	"slices"

	"weir/api"
)

// machine is what can be done in the states of a program.
type machine struct {
	threads [][]api.Op
	steps   [][]small // by the instruction's kind and the thread's phase
}

func machineOf(threads [][]api.Op) machine { return machine{threads: threads, steps: table()} }

// turnOf is a thread at its next instruction; at an instruction without a kind, if it has done all.
func (m machine) turnOf(s *api.State, thread int) turn {
	t := turn{state: s, thread: thread}
	if at := s.PC[thread]; at < len(m.threads[thread]) {
		t.op = m.threads[thread][at]
	}
	return t
}

// stepsOf is the small steps of which a thread's next instruction is made; none, if it has done all.
func (m machine) stepsOf(t turn) []small { return m.steps[t.op.Kind] }

// proper tells whether a thread is within an instruction just if it holds the lock.
func (m machine) proper(s *api.State) bool {
	for i, phase := range s.Phase {
		if (phase != 0) != (i == s.Lock) {
			return false
		}
	}
	// A locked instruction is one that is made of several small steps.
	return s.Lock == -1 || len(m.stepsOf(m.turnOf(s, s.Lock))) > 1
}

// can tells whether a pick can be done in a state.
func (m machine) can(s *api.State, k api.Pick) bool {
	if k.Thread < 0 || k.Thread >= len(m.threads) || k.Loc != 0 || !m.proper(s) {
		return false
	}
	t := m.turnOf(s, k.Thread)
	switch k.Kind {
	case api.PFlush:
		return !t.drained() && t.unblocked()
	case api.PStep:
		l := m.stepsOf(t)
		return len(l) > 0 && l[t.phase()].ready(t)
	}
	return false
}

// picks is the picks that can be done in a state.
func (m machine) picks(s api.State) []api.Pick {
	var l []api.Pick
	for i := range m.threads {
		for _, kind := range [...]int{api.PStep, api.PFlush} {
			if k := (api.Pick{Thread: i, Kind: kind}); m.can(&s, k) {
				l = append(l, k)
			}
		}
	}
	return l
}

// step is the state behind a pick; false: it can't be done.
func (m machine) step(s api.State, k api.Pick) (api.State, bool) {
	if !m.can(&s, k) {
		return api.State{}, false
	}
	next := copyOf(s)
	t := m.turnOf(&next, k.Thread)
	if k.Kind == api.PFlush {
		t.flush()
		return next, true
	}
	l := m.stepsOf(t)
	l[t.phase()].do(t)
	t.advance(len(l))
	return next, true
}

// done tells whether all instructions are done and all writes have reached memory.
func (m machine) done(s api.State) bool {
	for i, l := range m.threads {
		if s.PC[i] < len(l) || len(s.Buf[i]) > 0 {
			return false
		}
	}
	return m.proper(&s)
}

// copyOf is a state like another one, in memory of its own.
func copyOf(s api.State) api.State {
	return api.State{
		PC:    slices.Clone(s.PC),
		Phase: slices.Clone(s.Phase),
		Regs:  clones(s.Regs),
		Mem:   slices.Clone(s.Mem),
		Buf:   clones(s.Buf),
		Lock:  s.Lock,
	}
}

// clones is lists like some others, in memory of their own.
func clones[T any](lists [][]T) [][]T {
	l := make([][]T, len(lists))
	for i := range lists {
		l[i] = slices.Clone(lists[i])
	}
	return l
}

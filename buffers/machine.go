package buffers

import "weir/api"

// machine is what can be done in the states of a program.
type machine struct {
	order   Order
	threads [][]api.Op
	steps   [][]small // by the instruction's kind and the thread's phase
}

func (o Order) machineOf(threads [][]api.Op) machine {
	return machine{order: o, threads: threads, steps: table()}
}

// turnOf is a thread at its next instruction; at an instruction without a kind, if it has done all.
func (m machine) turnOf(s *api.State, thread int) turn {
	t := turn{order: m.order, state: s, thread: thread}
	if at := s.PC[thread]; at < len(m.threads[thread]) {
		t.op = m.threads[thread][at]
	}
	return t
}

// stepsOf is the small steps of which a thread's next instruction is made; none, if it has done all.
func (m machine) stepsOf(t turn) []small { return m.steps[t.op.Kind] }

// proper tells whether a thread is within an instruction just if it holds the lock, and all buffers are as the order has them.
func (m machine) proper(s *api.State) bool {
	for i, phase := range s.Phase {
		if (phase != 0) != (i == s.Lock) || !m.order.Kept(s.Buf[i]) {
			return false
		}
	}
	// A locked instruction is one that is made of several small steps.
	return s.Lock == -1 || len(m.stepsOf(m.turnOf(s, s.Lock))) > 1
}

// can tells whether a pick can be done in a proper state.
func (m machine) can(s *api.State, k api.Pick) bool {
	if k.Thread < 0 || k.Thread >= len(m.threads) {
		return false
	}
	t := m.turnOf(s, k.Thread)
	switch k.Kind {
	case api.PFlush:
		return t.first(k.Loc) >= 0 && t.unblocked()
	case api.PStep:
		l := m.stepsOf(t)
		return k.Loc == 0 && len(l) > 0 && l[t.phase()].ready(t)
	}
	return false
}

// picks is the picks that can be done in a state.
func (m machine) picks(s api.State) []api.Pick {
	if !m.proper(&s) {
		return nil
	}
	var l []api.Pick
	add := func(k api.Pick) {
		if m.can(&s, k) {
			l = append(l, k)
		}
	}
	for i := range m.threads {
		add(api.Pick{Thread: i, Kind: api.PStep})
		for loc := range s.Mem {
			add(api.Pick{Thread: i, Kind: api.PFlush, Loc: loc})
		}
	}
	return l
}

// step is the state behind a pick; false: it can't be done.
func (m machine) step(s api.State, k api.Pick) (api.State, bool) {
	if !m.proper(&s) || !m.can(&s, k) {
		return api.State{}, false
	}
	next := Copy(s)
	t := m.turnOf(&next, k.Thread)
	if k.Kind == api.PFlush {
		t.flush(k.Loc)
		return next, true
	}
	l := m.stepsOf(t)
	l[t.phase()].do(t)
	t.advance(len(l))
	return next, true
}

// done tells whether all instructions are done and all writes have reached memory.
func (m machine) done(s api.State) bool {
	for i, l := range m.threads {
		if s.PC[i] < len(l) || len(s.Buf[i]) > 0 {
			return false
		}
	}
	return m.proper(&s)
}

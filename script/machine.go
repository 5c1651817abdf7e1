package script

import "weir/api"

// step asks the machine's Step, if it has one.
func step(m api.Machine, s string, k api.Pick) (string, bool) {
	if m.Step == nil {
		return "", false
	}
	return m.Step(s, k)
}

// end asks the machine's End, if it has one.
func end(m api.Machine, s string) (api.Final, bool) {
	if m.End == nil {
		return api.Final{}, false
	}
	return m.End(s)
}

// first is the first pick that the machine's Picks answers, if it has one.
func first(m api.Machine, s string) (api.Pick, bool) {
	if m.Picks == nil {
		return api.Pick{}, false
	}
	if l := m.Picks(s); len(l) > 0 {
		return l[0], true
	}
	return api.Pick{}, false
}

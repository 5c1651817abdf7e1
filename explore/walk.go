package explore

import (
	"iter"
	"slices"

	"weir/api"
)

// nowhere stands for the state from which the walk comes to the start.
const nowhere = -1

// arrival is a move, and the state to which it leads. States have numbers, breadth first, from 0 on.
type arrival struct {
	from, to int
	pick     api.Pick
	text     string
	fresh    bool // no move has led to the state before
	depth    int  // of a fresh state
}

// walk goes through all moves, those of each state in their order, state behind state breadth first; ahead of them it arrives at the start.
func walk(m api.Machine) iter.Seq[arrival] {
	return func(yield func(arrival) bool) {
		start := arrival{from: nowhere, text: m.Start, fresh: true}
		numbers := map[string]int{m.Start: 0}
		waiting := map[int]arrival{0: start} // states whose moves have not come yet
		if !yield(start) {
			return
		}
		for n := 0; len(waiting) > 0; n++ {
			s := waiting[n]
			delete(waiting, n)
			// A machine may answer in the same memory each time, and those to whom the walk is handed may ask it meanwhile.
			for _, k := range slices.Clone(m.Picks(s.text)) {
				text, ok := m.Step(s.text, k)
				if !ok {
					continue
				}
				to, known := numbers[text]
				if !known {
					to = len(numbers)
				}
				a := arrival{from: n, to: to, pick: k, text: text, fresh: !known, depth: s.depth + 1}
				if !known {
					numbers[text] = to
					waiting[to] = a
				}
				if !yield(a) {
					return
				}
			}
		}
	}
}

// whole hands on all arrivals of the walk; ErrLong: there are more than most states, and some arrivals were handed on in vain.
func whole(m api.Machine, most int, visit func(arrival)) api.Errno {
	for a := range walk(m) {
		if a.to >= most {
			return api.ErrLong
		}
		visit(a)
	}
	return api.OK
}

// trail is, by the states' numbers, how each was come to first.
type trail []link

type link struct {
	from int
	pick api.Pick
}

// add puts a fresh state behind the others.
func (t *trail) add(a arrival) { *t = append(*t, link{a.from, a.pick}) }

// picks is the first shortest way to a state.
func (t trail) picks(n int) []api.Pick {
	var l []api.Pick
	for ; t[n].from != nowhere; n = t[n].from {
		l = append(l, t[n].pick)
	}
	slices.Reverse(l)
	return l
}

package event_test

import (
	"fmt"
	"slices"
	"testing"

	"weir/api"
	"weir/event"
	"weir/rel"
)

// someWhole is an unruly execution of a program's events: each read reads from a write to its location, each list of Order has all writes to a location, the initial one first.
func someWhole(roll func(int) int, p api.Prog, l []api.Event) api.Exec {
	x := api.Exec{Events: l}
	for loc := range p.Locs {
		var order []int
		for i, e := range l {
			if e.Loc == loc && (e.Kind == api.EInit || e.Kind == api.EWrite) {
				order = append(order, i)
			}
		}
		for i := len(order) - 1; i > 1; i-- {
			k := 1 + roll(i)
			order[i], order[k] = order[k], order[i]
		}
		x.Order = append(x.Order, order)
	}
	for _, e := range l {
		from := -1
		if e.Kind == api.ERead {
			from = pick(roll, x.Order[e.Loc])
		}
		x.From = append(x.From, from)
	}
	return x
}

// 17.6: of all lists of events.
func TestOrders(t *testing.T) {
	for _, x := range someExecs(dice(1761), 10) {
		l := x.Events
		po, in, ext := event.Po(l), event.Int(l), event.Ext(l)
		if !rel.Irreflexive(po) || !rel.Transitive(po) || rel.Minus(po, in) != (api.Rel{N: po.N}) {
			t.Fatalf("Po of %.300s is no strict order within threads", fmt.Sprint(l))
		}
		// Of two events of one thread one is ahead.
		if rel.Opt(in) != rel.Opt(rel.Union(po, rel.Inverse(po))) {
			t.Fatalf("Po of %.300s leaves events of one thread without an order", fmt.Sprint(l))
		}
		if rel.Count(rel.Meet(in, ext)) != 0 || rel.Union(in, ext) != rel.Not(api.Rel{N: in.N}) {
			t.Fatalf("Int and Ext of %.300s are not one another's rest", fmt.Sprint(l))
		}
	}
}

// 17.6: of whole executions.
func TestWhole(t *testing.T) {
	roll, reads, behind := dice(1762), 0, 0
	for _, p := range someProgs(t, roll, 300) {
		n, _ := event.Tries(p)
		for range 5 {
			l, _ := event.List(p, api.Set(roll(1<<62))&(1<<n-1))
			x := someWhole(roll, p, l)
			rf, co, fr := event.Rf(x), event.Co(x), event.Fr(x)
			for i, e := range l {
				from := 0
				for w := range l {
					if rel.Has(rf, w, i) {
						from++
						reads++
					}
				}
				if from != map[bool]int{true: 1}[e.Kind == api.ERead] {
					t.Fatalf("the event %d of %v reads from %d", i, l, from)
				}
			}
			writes := event.Of(l, api.EInit) | event.Of(l, api.EWrite)
			same := rel.Restrict(event.Loc(l), writes, writes)
			if !rel.Irreflexive(co) || !rel.Transitive(co) || rel.Union(co, rel.Inverse(co)) != rel.Minus(same, rel.On(len(l), writes)) {
				t.Fatalf("Co of %v orders not all writes to each location", x)
			}
			if rel.Minus(fr, rel.Restrict(event.Loc(l), event.Of(l, api.ERead), writes)) != (api.Rel{N: len(l)}) {
				t.Fatalf("Fr of %v leads elsewhere", x)
			}
			for r, w := range x.From {
				if w < 0 {
					continue
				}
				order := x.Order[l[r].Loc]
				rest := order[slices.Index(order, w)+1:]
				for b := range l {
					if rel.Has(fr, r, b) != slices.Contains(rest, b) {
						t.Fatalf("Fr of %v: %d, %d", x, r, b)
					}
				}
				behind += len(rest)
			}
		}
	}
	if reads < 1000 || behind < 1000 {
		t.Errorf("%d reads, %d writes behind what they read", reads, behind)
	}
}

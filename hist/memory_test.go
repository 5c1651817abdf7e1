package hist_test

import (
	"reflect"
	"slices"
	"sync"
	"testing"

	"weir/api"
	"weir/hist"
	"weir/prog"
)

// 30.6: what is handed in is as it was, with what lies behind the ends of its lists; what is handed out shares memory with nothing.
func TestMemory(t *testing.T) {
	roll := dice(306)
	for range 300 {
		x := someTest(roll)
		p := progOf(t, x)
		runs := wide(someRuns(roll, len(prog.Names(p)), 12))
		allowed := wide(setOf(someRuns(roll, len(prog.Names(p)), 12)))
		x = wide(x)
		a := wide(histOf(t, x, runs))
		b := wide(histOf(t, x, allowed))
		empty := wide(histOf(t, x, nil))
		before := whole(x) + whole(runs) + whole(allowed) + whole(a) + whole(b) + whole(empty)
		all := answers(t, x, runs, allowed, a, b, empty)
		again := answers(t, x, runs, allowed, a, b, empty)
		if before != whole(x)+whole(runs)+whole(allowed)+whole(a)+whole(b)+whole(empty) {
			t.Fatalf("what was handed in has changed")
		}
		apart(t, slices.Concat([]any{x, runs, allowed, a, b, empty}, all, again)...)
		for _, v := range []any{&x, &runs, &allowed, &a, &b, &empty} {
			spoil(reflect.ValueOf(v).Elem())
		}
		for i := range all {
			if whole(all[i]) != whole(again[i]) {
				t.Fatalf("what was handed out is another one: %v, %v", all[i], again[i])
			}
		}
	}
}

// answers is what the calls with lists answer.
func answers(t *testing.T, x api.Test, runs, allowed []api.Final, a, b, empty api.Hist) []any {
	t.Helper()
	strange, missed := held(t, a, x, allowed)
	none, all := held(t, empty, x, allowed)
	s := textOf(t, a)
	read, err := hist.Parse(s)
	if err != nil {
		t.Fatalf("Parse(%q): %v", s, err)
	}
	return []any{
		histOf(t, x, runs), histOf(t, x, nil), read, strange, missed, none, all,
		added(t, a, b), added(t, a, a), added(t, a, empty), added(t, empty, b), added(t, empty, empty),
	}
}

// R5: many at one time answer the same as one by one.
func TestAtOneTime(t *testing.T) {
	roll := dice(3065)
	x := sb(t, "locations [x;] exists "+bothZero)
	runs := someRuns(roll, 4, 40)
	want := histOf(t, x, runs)
	log := textOf(t, want)
	var all sync.WaitGroup
	for range 8 {
		all.Go(func() {
			for range 50 {
				h, e := hist.Of(x, runs)
				s, e2 := hist.Text(h)
				g, err := hist.Parse(log)
				if e != api.OK || e2 != api.OK || err != nil || s != log || !same(g, want) {
					t.Errorf("%v, %q, %v", h, s, g)
				}
			}
		})
	}
	all.Wait()
}

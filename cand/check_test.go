package cand_test

import (
	"fmt"
	"math"
	"reflect"
	"slices"
	"testing"

	"weir/api"
	"weir/cand"
	"weir/event"
)

// members is the numbers and bools somewhere in an execution.
func members(v reflect.Value) []reflect.Value {
	var l []reflect.Value
	switch v.Kind() {
	case reflect.Slice:
		for i := range v.Len() {
			l = append(l, members(v.Index(i))...)
		}
	case reflect.Struct:
		for i := range v.NumField() {
			l = append(l, members(v.Field(i))...)
		}
	default:
		l = append(l, v)
	}
	return l
}

// rows is the lists somewhere in an execution.
func rows(v reflect.Value) []reflect.Value {
	var l []reflect.Value
	switch v.Kind() {
	case reflect.Slice:
		l = append(l, v)
		for i := range v.Len() {
			l = append(l, rows(v.Index(i))...)
		}
	case reflect.Struct:
		for i := range v.NumField() {
			l = append(l, rows(v.Field(i))...)
		}
	}
	return l
}

// bent is an execution with one thing changed.
func bent(roll func(int) int, x api.Exec) api.Exec {
	x = wide(x)
	v := reflect.ValueOf(&x).Elem()
	if all := members(v); roll(2) == 0 && len(all) > 0 {
		bend(roll, pick(roll, all))
		return x
	}
	l := pick(roll, rows(v))
	n := l.Len()
	switch roll(5) {
	case 0: // one more, of what lies behind
		l.Set(l.Slice(0, n+1))
	case 1:
		if n > 0 {
			l.Set(l.Slice(0, n-1))
		}
	case 2:
		if n > 0 {
			l.Set(l.Slice(1, n))
		}
	case 3: // two change places
		if n > 0 {
			reflect.Swapper(l.Interface())(roll(n), roll(n))
		}
	case 4: // one twice
		if n > 0 {
			l.Index(roll(n)).Set(l.Index(roll(n)))
		}
	}
	return x
}

func bend(roll func(int) int, v reflect.Value) {
	if v.Kind() == reflect.Bool {
		v.SetBool(!v.Bool())
		return
	}
	v.SetInt([]int64{v.Int() + 1, v.Int() - 1, 0, 1, -1, 64, math.MinInt64, math.MaxInt64}[roll(8)])
}

// 18.5: candidates, and executions that are nearly so: those are candidates that All is said to go through, and no others.
func TestCheck(t *testing.T) {
	roll, right, wrong := dice(1851), 0, 0
	for _, p := range smallProgs(t, roll, 300, 100) {
		l := saysAll(p)
		is := map[string]bool{}
		for _, x := range l {
			is[say(x)] = true
		}
		for _, x := range l {
			if e := cand.Check(p, x); e != api.OK {
				t.Fatalf("Check(%v, %v): %d", p, x, e)
			}
			if f, e := cand.End(p, x); e != api.OK || f != saysEnd(x) {
				t.Fatalf("End(%v, %v): %v %d; want %v", p, x, f, e, saysEnd(x))
			}
			for range 20 {
				y := bent(roll, x)
				want, end := api.OK, api.Final{}
				if is[say(y)] {
					end = saysEnd(y)
					right++
				} else {
					want = api.ErrExec
					wrong++
				}
				if e := cand.Check(p, y); e != want {
					t.Fatalf("Check(%v, %v): %d; want %d", p, y, e, want)
				}
				if f, e := cand.End(p, y); e != want || f != end {
					t.Fatalf("End(%v, %v): %v %d; want %v %d", p, y, f, e, end, want)
				}
			}
		}
	}
	if right < 1000 || wrong < 10000 {
		t.Errorf("%d right, %d wrong", right, wrong)
	}
}

// 18.5: what is wrong with an execution of SB, written out.
func TestCheckWritten(t *testing.T) {
	p := sb(t)
	right := func() api.Exec {
		l, _ := event.List(p, 0)
		return api.Exec{Events: l, Values: []int64{0, 0, 1, 1, 1, 0}, From: []int{-1, -1, -1, 4, -1, 0}, Order: [][]int{{0, 2}, {1, 4}}, Regs: [][]int64{{1}, {0}}}
	}
	if e := cand.Check(p, right()); e != api.OK {
		t.Fatalf("Check: %d", e)
	}
	if f, e := cand.End(p, right()); e != api.OK || f != (api.Final{N: 4, V: [api.MaxFinal]int64{1, 0, 1, 1}}) {
		t.Errorf("End: %v %d", f, e)
	}
	for what, turn := range map[string]func(x *api.Exec){
		"nothing":                   func(x *api.Exec) { *x = api.Exec{} },
		"no events":                 func(x *api.Exec) { x.Events = nil },
		"an event less":             func(x *api.Exec) { x.Events = x.Events[:5] },
		"an event more":             func(x *api.Exec) { x.Events = append(x.Events, api.Event{Kind: api.EFence, Loc: -1}) },
		"very many events":          func(x *api.Exec) { x.Events = slices.Repeat(x.Events, 1<<14) },
		"another thread":            func(x *api.Exec) { x.Events[2].Thread = 1 },
		"another index":             func(x *api.Exec) { x.Events[3].Index = 0 },
		"another kind":              func(x *api.Exec) { x.Events[3].Kind = api.EWrite },
		"another location":          func(x *api.Exec) { x.Events[3].Loc = 0 },
		"a lock":                    func(x *api.Exec) { x.Events[3].Locked = true },
		"no values":                 func(x *api.Exec) { x.Values = nil },
		"another value":             func(x *api.Exec) { x.Values[3] = 0 },
		"another value of a write":  func(x *api.Exec) { x.Values[2] = 2 },
		"a value more":              func(x *api.Exec) { x.Values = append(x.Values, 0) },
		"a value less":              func(x *api.Exec) { x.Values = x.Values[:5] },
		"another write to read":     func(x *api.Exec) { x.From[3] = 1 },
		"no write to read":          func(x *api.Exec) { x.From[3] = -1 },
		"no choices":                func(x *api.Exec) { x.From = nil },
		"no order":                  func(x *api.Exec) { x.Order = nil },
		"an order less":             func(x *api.Exec) { x.Order = x.Order[:1] },
		"an order more":             func(x *api.Exec) { x.Order = append(x.Order, []int{}) },
		"an order without writes":   func(x *api.Exec) { x.Order[1] = nil },
		"an order without one":      func(x *api.Exec) { x.Order[1] = []int{1} },
		"an order without initial":  func(x *api.Exec) { x.Order[1] = []int{4} },
		"initial last":              func(x *api.Exec) { x.Order[1] = []int{4, 1} },
		"a write twice":             func(x *api.Exec) { x.Order[1] = []int{1, 4, 4} },
		"initial twice":             func(x *api.Exec) { x.Order[1] = []int{1, 1} },
		"a read among the writes":   func(x *api.Exec) { x.Order[1] = []int{1, 3} },
		"others' writes":            func(x *api.Exec) { x.Order[0], x.Order[1] = x.Order[1], x.Order[0] },
		"no event in an order":      func(x *api.Exec) { x.Order[1] = []int{1, -4} },
		"no registers":              func(x *api.Exec) { x.Regs = nil },
		"another register's value":  func(x *api.Exec) { x.Regs[1][0] = 1 },
		"a register more":           func(x *api.Exec) { x.Regs[0] = append(x.Regs[0], 0) },
		"a register less":           func(x *api.Exec) { x.Regs[0] = nil },
		"a thread's registers more": func(x *api.Exec) { x.Regs = append(x.Regs, nil) },
		"a thread's registers less": func(x *api.Exec) { x.Regs = x.Regs[:1] },
	} {
		x := right()
		turn(&x)
		if e := cand.Check(p, x); e != api.ErrExec {
			t.Errorf("Check, %s: %d", what, e)
		}
		if f, e := cand.End(p, x); e != api.ErrExec || f != (api.Final{}) {
			t.Errorf("End, %s: %v %d", what, f, e)
		}
	}
}

// 18.5: a try's write tells which try failed; without it all else must fit.
func TestCheckTries(t *testing.T) {
	p := of(t, "0:EAX=5; 0:EBX=5", "LOCK CMPXCHG [x],EBX")
	l, _ := event.List(p, 0)
	wrote := api.Exec{Events: l, Values: []int64{0, 5, 5}, From: []int{-1, 2, -1}, Order: [][]int{{0, 2}}, Regs: [][]int64{{5, 5}}}
	l, _ = event.List(p, 1)
	failed := api.Exec{Events: l, Values: []int64{0, 0}, From: []int{-1, 0}, Order: [][]int{{0}}, Regs: [][]int64{{0, 5}}}
	for _, x := range []api.Exec{wrote, failed} {
		if e := cand.Check(p, x); e != api.OK {
			t.Errorf("Check(%v): %d", x, e)
		}
	}
	wrote.Events, failed.Events = failed.Events, wrote.Events
	for _, x := range []api.Exec{wrote, failed} {
		if e := cand.Check(p, x); e != api.ErrExec {
			t.Errorf("Check(%v): %d", x, e)
		}
	}
}

// 18.5, R3: an empty list may be nil or not.
func TestCheckEmpty(t *testing.T) {
	p := bare(2)
	for _, x := range []api.Exec{
		{Regs: [][]int64{nil, {}}},
		{Events: []api.Event{}, Values: []int64{}, From: []int{}, Order: [][]int{}, Regs: [][]int64{{}, nil}},
	} {
		if e := cand.Check(p, x); e != api.OK {
			t.Errorf("Check(%#v): %d", x, e)
		}
		if f, e := cand.End(p, x); e != api.OK || f != (api.Final{}) {
			t.Errorf("End(%#v): %v %d", x, f, e)
		}
	}
	if e := cand.Check(p, api.Exec{}); e != api.ErrExec {
		t.Errorf("Check without registers: %d", e)
	}
}

// 18.5: as many values as a final state can have.
func TestEndFull(t *testing.T) {
	p := api.Prog{Threads: make([][]api.Op, 4)}
	want := api.Final{N: api.MaxFinal}
	for i := range 4 {
		p.Regs = append(p.Regs, []string{"EAX", "EBP", "EBX", "ECX", "EDI", "EDX", "ESI", "ESP"})
		p.RegInit = append(p.RegInit, make([]int64, 8))
		for k := range 8 {
			p.RegInit[i][k] = int64(100 + 8*i + k)
			want.V[8*i+k] = int64(100 + 8*i + k)
		}
	}
	for i := range 16 {
		p.Locs = append(p.Locs, fmt.Sprintf("l%02d", i))
		p.LocInit = append(p.LocInit, int64(-i))
		want.V[32+i] = int64(-i)
	}
	p.Threads[3] = []api.Op{{Kind: api.OStoreReg, Loc: 15, Src: 7}, {Kind: api.OStoreImm, Loc: 15, Imm: 9}}
	last := []int64{9, 131}
	for x := range allOf(t, p) {
		want.V[47] = last[0]
		if f, e := cand.End(p, x); e != api.OK || f != want {
			t.Errorf("End: %v %d; want %v", f, e, want)
		}
		last = last[1:]
	}
	if len(last) != 0 {
		t.Errorf("candidates are missing: %v", last)
	}
}

// 18.7, R4: what is handed in is not changed.
func TestCheckMemory(t *testing.T) {
	roll := dice(1852)
	for _, p := range smallProgs(t, roll, 200, 50) {
		for _, x := range saysAll(p) {
			p, x := wide(p), wide(x)
			before := whole(reflect.ValueOf(p)) + whole(reflect.ValueOf(x))
			cand.Check(p, x)
			cand.End(p, x)
			if after := whole(reflect.ValueOf(p)) + whole(reflect.ValueOf(x)); after != before {
				t.Fatalf("what was handed in has changed: %s; it was %s", after, before)
			}
		}
	}
}

package model_test

import (
	"cmp"
	"fmt"
	"math"
	"reflect"
	"slices"
	"strings"
	"testing"

	"weir/api"
	"weir/cand"
	"weir/cat"
	"weir/litmus"
	"weir/prog"
)

// dice is a row of numbers that look unruly and are the same at every run.
func dice(seed uint64) func(n int) int {
	return func(n int) int {
		seed += 0x9e3779b97f4a7c15
		z := (seed ^ seed>>30) * 0xbf58476d1ce4e5b9
		z = (z ^ z>>27) * 0x94d049bb133111eb
		return int((z ^ z>>31) % uint64(n))
	}
}

func pick[T any](roll func(int) int, l []T) T { return l[roll(len(l))] }

// parsed is the model of a text.
func parsed(t *testing.T, s string) api.Model {
	t.Helper()
	m, err := cat.Parse(s)
	if err != nil {
		t.Fatalf("%s: %v", s, err)
	}
	return m
}

// of is the program of threads, whose instructions stand with a ; between them.
func of(t *testing.T, threads ...string) api.Prog {
	t.Helper()
	x := api.Test{Name: "t", Quant: api.Exists, Cond: api.Cond{{Op: api.CTrue}}}
	for _, thread := range threads {
		var l []api.Instr
		for _, text := range strings.FieldsFunc(thread, func(r rune) bool { return r == ';' }) {
			in, err := litmus.Instruction(text)
			if err != nil {
				t.Fatalf("%s: %v", text, err)
			}
			l = append(l, in)
		}
		x.Threads = append(x.Threads, l)
	}
	p, e := prog.Of(x)
	if e != api.OK {
		t.Fatalf("%s: %d", threads, e)
	}
	return p
}

// allOf is a program's candidates.
func allOf(t *testing.T, p api.Prog) []api.Exec {
	t.Helper()
	it, e := cand.All(p)
	if e != api.OK {
		t.Fatalf("All(%v): %d", p, e)
	}
	return slices.Collect(it)
}

// shapes is programs in which the models part: two accesses a thread, perhaps with something between.
func shapes(t *testing.T) []api.Prog {
	t.Helper()
	var l []api.Prog
	access := func(loc string) []string {
		return []string{"MOV [" + loc + "],$1", "MOV EAX,[" + loc + "]", "XCHG [" + loc + "],EBX", "LOCK CMPXCHG [" + loc + "],ECX"}
	}
	for _, between := range []string{"", ";MFENCE"} {
		for _, a := range access("x") {
			for _, b := range access("y") {
				for _, c := range access("y") {
					for _, d := range access("x") {
						l = append(l, of(t, a+between+";"+b, c+";"+d))
					}
				}
			}
		}
	}
	return l
}

// someEvent is an unruly event, of no program.
func someEvent(roll func(int) int) api.Event {
	return api.Event{
		Kind:   []int{1, 1, 2, 2, 2, 3, 3, 3, 4, 4, 0, 5, -1, math.MinInt, math.MaxInt}[roll(15)],
		Thread: []int{-1, -1, 0, 0, 0, 1, 1, 1, 2, -2, math.MinInt, math.MaxInt}[roll(12)],
		Index:  []int{0, 0, 0, 1, 1, 2, -1, math.MinInt, math.MaxInt}[roll(9)],
		Loc:    []int{-1, 0, 0, 0, 1, 1, 2, 3, -2, math.MinInt, math.MaxInt}[roll(11)],
		Locked: roll(2) == 0,
	}
}

// somePlaces is unruly numbers, most of them places among n events.
func somePlaces(roll func(int) int, length, n int) []int {
	var l []int
	for range length {
		if n == 0 || roll(6) == 0 {
			l = append(l, pick(roll, []int{math.MinInt, -65, -64, -2, -1, 0, 1, n - 1, n, n + 1, 63, 64, 65, 128, math.MaxInt}))
		} else {
			l = append(l, roll(n))
		}
	}
	return l
}

// someExec is an unruly execution of so many events, of no program; its lists are as long as it comes.
func someExec(roll func(int) int, n int) api.Exec {
	var x api.Exec
	for range n {
		x.Events = append(x.Events, someEvent(roll))
	}
	x.Values = make([]int64, roll(3))
	x.From = somePlaces(roll, []int{n, n, n / 2, 0, n / 4, n + 3, 2*n + 70}[roll(7)], n)
	for range roll(4) {
		x.Order = append(x.Order, somePlaces(roll, []int{0, 1, 2, 3, 5, 9}[roll(6)], n))
	}
	return x
}

// someDense is an execution of no program, of few events that have much to do with one another.
func someDense(roll func(int) int) api.Exec {
	n := 3 + roll(5)
	var x api.Exec
	for range n {
		e := api.Event{Kind: []int{1, 2, 2, 3, 3, 4, 5}[roll(7)], Thread: []int{-1, 0, 0, 0, 1}[roll(5)], Index: roll(8) / 6, Loc: roll(8) / 6, Locked: roll(4) > 0}
		from := -1
		if e.Kind == api.ERead || roll(12) == 0 {
			from = roll(n)
		}
		x.Events, x.From = append(x.Events, e), append(x.From, from)
	}
	for range 1 + roll(2) {
		var order []int
		for a, e := range x.Events {
			if (e.Kind < api.ERead) == (roll(12) > 0) {
				order = slices.Insert(order, roll(len(order)+1), a)
			}
		}
		x.Order = append(x.Order, order)
	}
	return x
}

// someExecs is unruly executions of all lengths, too long ones and many short ones among them.
func someExecs(roll func(int) int, each int) []api.Exec {
	var l []api.Exec
	for n := range 68 {
		for range each {
			l = append(l, someExec(roll, n))
		}
	}
	for range 100 * each {
		l = append(l, someExec(roll, roll(9)), someDense(roll))
	}
	for _, n := range []int{128, 129, 1000, 1 << 16} {
		l = append(l, someExec(roll, n))
	}
	return l
}

const (
	relNames = "po loc int ext rmw rf rfe rfi co coe coi fr fre fri id"
	setNames = "W IW R M F L _"
)

// someTerm is the text of a term of a sort, with some leaves, all in brackets; lets is the names that were let, by their sorts.
func someTerm(roll func(int) int, sort, leaves int, lets [3][]string) string {
	if roll(4) == 0 {
		if sort == api.SSet {
			return "~(" + someTerm(roll, sort, leaves, lets) + ")"
		}
		before, behind := "", pick(roll, []string{"^-1", "+", "*", "?", ""})
		if behind == "" {
			before = "~"
		}
		return before + "(" + someTerm(roll, sort, leaves, lets) + ")" + behind
	}
	if leaves == 1 {
		return someLeaf(roll, sort, lets)
	}
	k := 1 + roll(leaves-1)
	sign, inner := pick(roll, []string{"|", "&", `\`}), sort
	if sort == api.SRel && roll(3) == 0 {
		sign, inner = "*", api.SSet
	} else if sort == api.SRel && roll(3) == 0 {
		sign = ";"
	}
	return "(" + someTerm(roll, inner, k, lets) + ") " + sign + " (" + someTerm(roll, inner, leaves-k, lets) + ")"
}

func someLeaf(roll func(int) int, sort int, lets [3][]string) string {
	if l := lets[sort]; len(l) > 0 && roll(2) == 0 {
		return pick(roll, l)
	}
	if sort == api.SSet {
		return pick(roll, strings.Fields(setNames))
	}
	if roll(5) == 0 {
		return "[" + someTerm(roll, api.SSet, 1, lets) + "]"
	}
	return pick(roll, strings.Fields(relNames+" 0"))
}

// someModel is a model of so many rules; its lets are named by rules behind them.
func someModel(t *testing.T, roll func(int) int, rules, leaves int) api.Model {
	t.Helper()
	text := "t"
	var lets [3][]string
	for i := range rules {
		sort := api.SRel + roll(3)/2
		term := someTerm(roll, sort, 1+roll(leaves), lets)
		switch {
		case roll(2) == 0:
			name := "n" + fmt.Sprint(i)
			text += "\nlet " + name + " = " + term
			lets[sort] = append(lets[sort], name)
		case sort == api.SSet:
			text += "\nempty " + term
		default:
			text += "\n" + pick(roll, []string{"acyclic ", "irreflexive ", "empty "}) + term + pick(roll, []string{"", " as n0", " as po"})
		}
	}
	return parsed(t, text)
}

// wide is v in memory of its own, with room behind each list's end that holds something.
func wide[T any](v T) T {
	widen(reflect.ValueOf(&v).Elem())
	return v
}

func widen(v reflect.Value) {
	switch v.Kind() {
	case reflect.Slice:
		n := v.Len()
		l := reflect.MakeSlice(v.Type(), n+2, n+2)
		reflect.Copy(l, v)
		for i := range n {
			widen(l.Index(i))
		}
		spoil(l.Index(n))
		spoil(l.Index(n + 1))
		v.Set(l.Slice(0, n))
	case reflect.Struct:
		for i := range v.NumField() {
			widen(v.Field(i))
		}
	}
}

// spoil overwrites all that v holds, in the spare room too.
func spoil(v reflect.Value) {
	switch v.Kind() {
	case reflect.Slice:
		for i, l := 0, v.Slice(0, v.Cap()); i < l.Len(); i++ {
			spoil(l.Index(i))
		}
	case reflect.Struct:
		for i := range v.NumField() {
			spoil(v.Field(i))
		}
	case reflect.Array:
		for i := range v.Len() {
			spoil(v.Index(i))
		}
	case reflect.Int, reflect.Int64:
		v.SetInt(-77)
	case reflect.Uint64:
		v.SetUint(77)
	case reflect.Bool:
		v.SetBool(true)
	case reflect.String:
		v.SetString("spoilt")
	}
}

// whole is what v and all lists in it hold, their spare room too.
func whole(v reflect.Value) string {
	switch v.Kind() {
	case reflect.Slice:
		s := fmt.Sprint("[", v.Len(), ":")
		for i, l := 0, v.Slice(0, v.Cap()); i < l.Len(); i++ {
			s += whole(l.Index(i)) + " "
		}
		return s + "]"
	case reflect.Struct:
		s := "{"
		for i := range v.NumField() {
			s += whole(v.Field(i)) + " "
		}
		return s + "}"
	}
	return fmt.Sprintf("%#v", v)
}

// span is where a list lies in memory, with its spare room.
type span struct{ begin, end uintptr }

// spans is where all lists of v lie.
func spans(v reflect.Value) []span {
	var l []span
	switch v.Kind() {
	case reflect.Slice:
		if v.Cap() > 0 {
			l = append(l, span{v.Pointer(), v.Pointer() + uintptr(v.Cap())*v.Type().Elem().Size()})
		}
		for i, all := 0, v.Slice(0, v.Cap()); i < all.Len(); i++ {
			l = append(l, spans(all.Index(i))...)
		}
	case reflect.Struct:
		for i := range v.NumField() {
			l = append(l, spans(v.Field(i))...)
		}
	}
	return l
}

// apart holds all lists of some values against each other: no two may share memory.
func apart(t *testing.T, values ...any) {
	t.Helper()
	var l []span
	for _, v := range values {
		l = append(l, spans(reflect.ValueOf(v))...)
	}
	slices.SortFunc(l, func(a, b span) int { return cmp.Compare(a.begin, b.begin) })
	for i := 1; i < len(l); i++ {
		if l[i].begin < l[i-1].end {
			t.Fatalf("two lists share memory")
		}
	}
}

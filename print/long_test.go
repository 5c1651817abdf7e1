package print_test

import (
	"slices"
	"sort"
	"strings"
	"testing"

	"weir/api"
	"weir/litmus"
	"weir/print"
)

// 8.2: a text of MaxText bytes, and of one more: by its Doc, whatever else the test has.
func TestLongDocs(t *testing.T) {
	roll := dice(82)
	for range 40 {
		x := randomTest(roll)
		x.Doc = "d"
		rest := len(fileWords(x)) - 1
		x.Doc = strings.Repeat("d", api.MaxText-rest)
		if s := checkTest(t, x); len(s) != api.MaxText {
			t.Fatalf("%d bytes", len(s))
		}
		x.Doc += "d"
		checkRefused(t, "one byte too many", x, api.ErrLong)
		x.Doc += strings.Repeat("d", api.MaxText)
		checkRefused(t, "twice as many bytes", x, api.ErrLong)
	}
}

// 8.2: texts that are too long by each part of them, up to the last byte.
func TestLongParts(t *testing.T) {
	long := strings.Repeat("n", 64)
	move := []api.Instr{{Op: api.OMovReg, Reg: long, Src: long}}
	for what, grow := range map[string]func(x *api.Test, n int){
		"settings":           func(x *api.Test, n int) { x.Inits = slices.Repeat([]api.Init{{Ref: loc(long)}}, n) },
		"watched references": func(x *api.Test, n int) { x.Watch = slices.Repeat([]api.Ref{reg(1, long)}, n) },
		"threads":            func(x *api.Test, n int) { x.Threads = make([][]api.Instr, n) },
		"rows":               func(x *api.Test, n int) { x.Threads[0] = slices.Repeat(move, n) },
		"rows of the last":   func(x *api.Test, n int) { x.Threads[1] = slices.Repeat(move, n) },
	} {
		grown := func(n int) api.Test {
			x := example()
			grow(&x, n)
			return x
		}
		n := sort.Search(1<<17, func(n int) bool {
			_, err := print.Text(grown(n + 1))
			return err != api.OK
		})
		if more := len(fileWords(grown(n + 1))); more <= api.MaxText {
			t.Errorf("%d %s have a text of %d bytes that is refused", n+1, what, more)
		}
		checkTest(t, grown(n))
		// The Doc leaves two bytes, which are filled by the name of what the condition asks: that stands last of all.
		x := grown(n - 10)
		x.Doc = strings.Repeat("d", api.MaxText-len(checkTest(t, x))-5)
		for range 5 {
			if want := fileWords(x); len(want) <= api.MaxText {
				checkText(t, x, want)
			} else {
				checkRefused(t, what+" up to the bound", x, api.ErrLong)
			}
			x.Cond[0].Ref.Name += "X"
		}
		for _, more := range []int{n + 1, 2 * n, 1 << 18} {
			checkRefused(t, what, grown(more), api.ErrLong)
		}
	}
}

// 8.2, R1: few lists with far more cells than any text has.
func TestManyCells(t *testing.T) {
	x := example()
	x.Threads = make([][]api.Instr, 1<<20)
	x.Threads[0] = slices.Repeat([]api.Instr{{Op: api.OFence}}, 1<<20)
	checkRefused(t, "2^40 cells", x, api.ErrLong)
	x.Threads[1<<20-1] = []api.Instr{{Op: api.OFence, Imm: 1}}
	checkRefused(t, "2^40 cells and a wrong one", x, api.ErrTest)
}

// 8.2, R4: nothing that is handed in is changed, or kept.
func TestMemory(t *testing.T) {
	roll := dice(24)
	for i := range 300 {
		x := roomy(randomTest(roll))
		if i%3 == 0 {
			x.Quant = 0
		}
		if i%3 == 1 {
			x.Doc = strings.Repeat("d", api.MaxText)
		}
		before := whole(x)
		s, err := print.Text(x)
		if !same(whole(x), before) {
			t.Errorf("Text changed %v", x)
		}
		if err != api.OK {
			continue
		}
		want := strings.Clone(s)
		y := evened(x)
		spoil(x.Inits, api.Init{Value: 99})
		spoil(x.Watch, api.Ref{Thread: 99})
		spoil(x.Cond, api.Node{Op: 99})
		for _, l := range x.Threads {
			spoil(l, api.Instr{Op: 99})
		}
		spoil(x.Threads, nil)
		if back, err := litmus.Parse(s); s != want || err != nil || !same(back, y) {
			t.Errorf("a text changed: %q", s)
		}
		checkText(t, y, want)
	}
}

// roomy is a test whose lists have spare room, with something in it.
func roomy(x api.Test) api.Test {
	x.Inits = append(x.Inits, api.Init{Value: 7}, api.Init{Value: 8})[:len(x.Inits)]
	x.Watch = append(x.Watch, reg(7, "spare"), reg(8, "spare"))[:len(x.Watch)]
	x.Cond = append(x.Cond, api.Node{Op: 7}, api.Node{Op: 8})[:len(x.Cond)]
	for k, l := range x.Threads {
		x.Threads[k] = append(l, api.Instr{Op: 7}, api.Instr{Op: 8})[:len(l)]
	}
	x.Threads = append(x.Threads, []api.Instr{{Op: 7}}, nil)[:len(x.Threads)]
	return x
}

// whole is a copy of a test, with what lies in the spare room of its lists.
func whole(x api.Test) api.Test {
	x.Inits, x.Watch, x.Cond = x.Inits[:cap(x.Inits)], x.Watch[:cap(x.Watch)], x.Cond[:cap(x.Cond)]
	x.Threads = slices.Clone(x.Threads[:cap(x.Threads)])
	for k, l := range x.Threads {
		x.Threads[k] = l[:cap(l)]
	}
	return evened(x)
}

func spoil[T any](l []T, v T) {
	for i := range l {
		l[i] = v
	}
}

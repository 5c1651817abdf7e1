package sc_test

import (
	"fmt"
	"math"
	"reflect"
	"slices"
	"strings"
	"testing"

	"weir/api"
	"weir/prog"
	"weir/sc"
)

// 11.1: the chapter's examples 1 and 2.
func TestExampleTexts(t *testing.T) {
	p := sb(t)
	s, e := sc.Start(p)
	if e != api.OK || !sameState(s, saysStart(p)) {
		t.Fatalf("Start: %v, %d", s, e)
	}
	for _, c := range []struct {
		pc   int
		x    int64
		want string
	}{
		{0, 0, "\x00\x00\x00\x00\x00\x00\x00\x00\x00\x00\x01"},
		{1, 1, "\x02\x00\x00\x00\x00\x00\x02\x00\x00\x00\x01"},
	} {
		s.PC[0], s.Mem[0] = c.pc, c.x
		if text, e := sc.Code(p, s); text != c.want || e != api.OK {
			t.Errorf("Code: %q, %d; want %q", text, e, c.want)
		}
		if u, e := sc.Read(p, c.want); !sameState(u, s) || e != api.OK {
			t.Errorf("Read: %v, %d; want %v", u, e, s)
		}
	}
}

// 11.1: a text in which each part of a state can be told from the others, written out.
func TestTextWritten(t *testing.T) {
	p := all(t) // threads of 2, 2 and 2 registers, four instructions each; x, y and z
	s := api.State{
		PC: []int{4, 0, 3}, Phase: []int{2, 1, 0}, Regs: [][]int64{{-1, 64}, {10, 11}, {12, 13}}, Mem: []int64{20, -64, 22},
		Buf: [][]api.Write{{{Loc: 2, Value: 30}, {Loc: 0, Value: 31}}, nil, {{Loc: 1, Value: -2}}}, Lock: 2,
	}
	want := "\x08\x04\x01\x80\x01" + "\x00\x02\x14\x16" + "\x06\x00\x18\x1a" + "\x28\x7f\x2c" + "\x04\x04\x3c\x00\x3e" + "\x00" + "\x02\x02\x03" + "\x04"
	if text, e := sc.Code(p, s); text != want || e != api.OK {
		t.Errorf("Code: %q, %d; want %q", text, e, want)
	}
	if u, e := sc.Read(p, want); !sameState(u, s) || e != api.OK {
		t.Errorf("Read: %v, %d; want %v", u, e, s)
	}
}

// checkCode holds Code of a state, right or not, against the words, and Read of its text.
func checkCode(t *testing.T, what string, p api.Prog, s api.State) {
	t.Helper()
	text, e := sc.Code(p, s)
	if !isState(p, s) {
		if text != "" || e != api.ErrState {
			t.Errorf("Code of %s (%.300s): %q, %d", what, fmt.Sprint(s), text, e)
		}
		return
	}
	if want := saysText(s); text != want || e != api.OK {
		t.Errorf("Code of %s (%.300s): %q, %d; want %q", what, fmt.Sprint(s), text, e, want)
	}
	if u, e := sc.Read(p, text); !sameState(u, s) || e != api.OK {
		t.Errorf("Read of the text of %s: %.300s, %d; want %.300s", what, fmt.Sprint(u), e, fmt.Sprint(s))
	}
}

// checkRead holds Read of a text, right or not, against the words.
func checkRead(t *testing.T, p api.Prog, text string) bool {
	t.Helper()
	want, ok := saysRead(p, text)
	s, e := sc.Read(p, text)
	if !ok {
		if e != api.ErrState || !reflect.DeepEqual(s, api.State{}) {
			t.Errorf("Read(%q): %.300s, %d", text, fmt.Sprint(s), e)
		}
		return false
	}
	if !sameState(s, want) || e != api.OK {
		t.Errorf("Read(%q): %.300s, %d; want %.300s", text, fmt.Sprint(s), e, fmt.Sprint(want))
	}
	if back, e := sc.Code(p, s); back != text || e != api.OK {
		t.Errorf("Code(Read(%q)): %q, %d", text, back, e)
	}
	return true
}

// 11.1, 11.5: unruly states of unruly programs, and of those at the bounds.
func TestTexts(t *testing.T) {
	roll := dice(111)
	for range 3000 {
		p := someProg(roll, 4)
		checkCode(t, "an unruly state", p, someState(roll, p))
	}
	for range 300 {
		checkCode(t, "a full state", fullest(), someState(roll, fullest()))
		checkCode(t, "a bare state", bare(4), someState(roll, bare(4)))
	}
}

// 11.1: Start of unruly programs, and its text.
func TestStart(t *testing.T) {
	roll := dice(112)
	progs := []api.Prog{sb(t), all(t), fullest(), bare(1), bare(4)}
	for range 500 {
		progs = append(progs, someProg(roll, 4))
	}
	for _, p := range progs {
		s, e := sc.Start(p)
		if e != api.OK || !sameState(s, saysStart(p)) {
			t.Errorf("Start(%.300s): %v, %d", fmt.Sprint(p), s, e)
		}
		checkCode(t, "a start", p, s)
		m, e := sc.New(p)
		if text, _ := sc.Code(p, s); e != api.OK || m.Start != text {
			t.Errorf("New(%.300s).Start: %q, %d; want %q", fmt.Sprint(p), m.Start, e, text)
		}
	}
}

type twist struct {
	what string
	turn func(*api.State)
}

// twists is what may be wrong, or just right, with a state of the program all.
func twists() []twist {
	var l []twist
	add := func(what string, turn func(*api.State)) { l = append(l, twist{what, turn}) }
	for _, n := range []int{math.MinInt, -2, -1, 0, 1, 2, 3, 4, 5, 1 << 32, math.MaxInt} {
		add(fmt.Sprint("Lock ", n), func(s *api.State) { s.Lock = n })
		for i := range 3 {
			add(fmt.Sprint("PC ", n, " of ", i), func(s *api.State) { s.PC[i] = n })
			add(fmt.Sprint("Phase ", n, " of ", i), func(s *api.State) { s.Phase[i] = n })
			add(fmt.Sprint("Loc ", n, " of ", i), func(s *api.State) { s.Buf[i] = append(s.Buf[i], api.Write{Loc: n}) })
			add(fmt.Sprint("a first Loc ", n, " of ", i), func(s *api.State) { s.Buf[i] = []api.Write{{Loc: n, Value: 1}, {Loc: 1}} })
		}
	}
	for i := range 3 {
		add(fmt.Sprint("a register more of ", i), func(s *api.State) { s.Regs[i] = append(s.Regs[i], 0) })
		add(fmt.Sprint("a register less of ", i), func(s *api.State) { s.Regs[i] = s.Regs[i][1:] })
		add(fmt.Sprint("no registers of ", i), func(s *api.State) { s.Regs[i] = nil })
		for _, n := range []int{0, 1, 63, 64, 65, 66, 1000} {
			add(fmt.Sprint(n, " writes of ", i), func(s *api.State) { s.Buf[i] = make([]api.Write, n) })
		}
	}
	add("a PC more", func(s *api.State) { s.PC = append(s.PC, 0) })
	add("a PC less", func(s *api.State) { s.PC = s.PC[1:] })
	add("no PC", func(s *api.State) { s.PC = nil })
	add("a Phase more", func(s *api.State) { s.Phase = append(s.Phase, 0) })
	add("a Phase less", func(s *api.State) { s.Phase = s.Phase[1:] })
	add("no Phase", func(s *api.State) { s.Phase = nil })
	add("a thread's registers more", func(s *api.State) { s.Regs = append(s.Regs, nil) })
	add("a thread's registers less", func(s *api.State) { s.Regs = s.Regs[:2] })
	add("no registers", func(s *api.State) { s.Regs = nil })
	add("a value of memory more", func(s *api.State) { s.Mem = append(s.Mem, 0) })
	add("a value of memory less", func(s *api.State) { s.Mem = s.Mem[1:] })
	add("no memory", func(s *api.State) { s.Mem = nil })
	add("a buffer more", func(s *api.State) { s.Buf = append(s.Buf, nil) })
	add("a buffer less", func(s *api.State) { s.Buf = s.Buf[1:] })
	add("no buffers", func(s *api.State) { s.Buf = nil })
	add("nothing", func(s *api.State) { *s = api.State{} })
	add("a thread more", func(s *api.State) {
		s.PC, s.Phase, s.Regs, s.Buf = append(s.PC, 0), append(s.Phase, 0), append(s.Regs, nil), append(s.Buf, nil)
	})
	add("a thread less", func(s *api.State) { s.PC, s.Phase, s.Regs, s.Buf = s.PC[1:], s.Phase[1:], s.Regs[1:], s.Buf[1:] })
	return l
}

// 11.1: each thing that can be wrong with a state.
func TestTwistedStates(t *testing.T) {
	p, roll := all(t), dice(113)
	right := 0
	for range 20 {
		for _, w := range twists() {
			s := evenState(someState(roll, p))
			w.turn(&s)
			checkCode(t, w.what, p, s)
			if isState(p, s) {
				right++
			}
		}
	}
	if right == 0 || right == 20*len(twists()) {
		t.Errorf("%d states are right", right)
	}
}

// 11.1: states of one program are none of another one, unless both have the same numbers of all.
func TestStatesOfOthers(t *testing.T) {
	roll := dice(114)
	for range 2000 {
		p, q := someProg(roll, 2), someProg(roll, 2)
		s := someState(roll, p)
		checkCode(t, "another program's state", q, s)
		checkRead(t, q, saysText(s))
	}
}

// 11.1, 11.5: all short texts of few bytes, of programs with few states.
func TestShortTexts(t *testing.T) {
	fences := func(n int) []api.Op { return slices.Repeat([]api.Op{{Kind: api.OFence}}, n) }
	one := bare(1)
	one.Threads[0] = fences(2)
	located := api.Prog{Threads: [][]api.Op{fences(1)}, Regs: [][]string{nil}, Locs: []string{"x"}, RegInit: [][]int64{nil}, LocInit: []int64{0}}
	named := api.Prog{Threads: [][]api.Op{nil}, Regs: [][]string{{"EAX"}}, RegInit: [][]int64{{0}}}
	for _, p := range []api.Prog{bare(1), bare(2), one, located, named} {
		taken := 0
		lists([]byte{0, 1, 2, 3, 4, 6, 128, 255}, 6, func(b []byte) {
			if checkRead(t, p, string(b)) {
				taken++
			}
		})
		if taken == 0 && len(p.Threads) == 1 {
			t.Errorf("no short text is a state of %v", p)
		}
	}
	for b := range 256 {
		for at := range 4 {
			text := []byte{0, 0, 0, 1}
			text[at] = byte(b)
			checkRead(t, one, string(text))
		}
	}
}

// 11.1, 11.5: unruly texts near those of states: cut, longer, and with other bytes.
func TestTextsNear(t *testing.T) {
	roll := dice(115)
	for i := range 600 {
		p := someProg(roll, 3)
		if i%30 == 0 {
			p = fullest()
		}
		text := saysText(someState(roll, p))
		for n := range min(len(text), 40) {
			checkRead(t, p, text[:n])
			checkRead(t, p, text[n+1:])
		}
		for _, more := range []string{"\x00", "\x01", "\x80", "\xff", text} {
			checkRead(t, p, text+more)
			checkRead(t, p, more+text)
		}
		for range 60 {
			b := []byte(text)
			for range 1 + roll(2) {
				b[roll(len(b))] = byte(roll(256))
			}
			checkRead(t, p, string(b))
			at := roll(len(text))
			checkRead(t, p, text[:at]+string([]byte{byte(roll(256))})+text[at:])
			checkRead(t, p, text[:at]+"\x80"+text[at:])
		}
	}
}

// 11.1: wrong numbers where they stand in a text, and texts that are very long.
func TestTextsWrong(t *testing.T) {
	p := of(t, "x=0", "MOV [x],$1|MFENCE")
	good := "\x00\x00" + "\x00\x00" + "\x00" + "\x00" + "\x00" + "\x01"
	if !checkRead(t, p, good) {
		t.Fatal("the start")
	}
	ends := [][2]int64{{0, 1}, {0, 2}, {0, 1}, {0, 2}, {math.MinInt64, math.MaxInt64}, {0, 0}, {0, 0}, {-1, 1}}
	for at, end := range ends { // two PCs, each with its Phase; x; no writes, as none stand behind; Lock
		for _, n := range []int64{-2, -1, 0, 1, 2, 3, 64, 65, 1 << 20, 1 << 32, math.MaxInt64, math.MinInt64} {
			text := good[:at] + varint(n) + good[at+1:]
			if ok := checkRead(t, p, text); ok != (end[0] <= n && n <= end[1]) {
				t.Errorf("Read(%q): %v", text, ok)
			}
		}
	}
	for _, n := range []int{63, 64, 65, 66} {
		full := good[:5] + varint(int64(n)) + strings.Repeat("\x00\x02", n) + "\x00\x01"
		if ok := checkRead(t, p, full); ok != (n <= 64) {
			t.Errorf("Read of %d writes: %v", n, ok)
		}
	}
	for _, c := range []string{"\x00", "\x01", "\x80", "\xff", "\x02"} {
		if _, e := sc.Read(p, strings.Repeat(c, 1<<22)); e != api.ErrState {
			t.Errorf("Read of very many %q: %d", c, e)
		}
		if _, e := sc.Read(p, good+strings.Repeat(c, 1<<22)); e != api.ErrState {
			t.Errorf("Read of a text with very many %q: %d", c, e)
		}
	}
}

func varint(v int64) string {
	s := saysText(api.State{PC: nil, Mem: []int64{v}})
	return s[:len(s)-1] // but for Lock
}

// 11.1: a thread of very many instructions.
func TestTextsOfManyInstructions(t *testing.T) {
	p := api.Prog{Threads: [][]api.Op{make([]api.Op, 1<<18)}, Regs: [][]string{{"EAX"}}, RegInit: [][]int64{{0}}}
	for i := range p.Threads[0] {
		p.Threads[0][i] = api.Op{Kind: api.OMovImm, Imm: int64(i)}
	}
	for _, n := range []int{0, 63, 64, 1<<18 - 1, 1 << 18, 1<<18 + 1} {
		s := saysStart(p)
		s.PC[0] = n
		checkCode(t, "a late state", p, s)
		checkRead(t, p, saysText(s))
	}
}

// 11.1: a program that is not right, of all calls, whatever else they are given.
func TestWrongPrograms(t *testing.T) {
	never := func() { t.Error("a function has been asked") }
	seen := map[api.Errno]int{}
	for what, p := range wrongProgs(t) {
		want := prog.Valid(p)
		seen[want]++
		for _, s := range []api.State{{}, saysStart(all(t)), saysStart(p), {Lock: -1}} {
			if text, e := sc.Code(p, s); text != "" || e != want {
				t.Errorf("Code with %s: %q, %d; want %d", what, text, e, want)
			}
		}
		for _, text := range []string{"", "\x00\x00\x00\x01", saysText(saysStart(all(t)))} {
			if s, e := sc.Read(p, text); e != want || !reflect.DeepEqual(s, api.State{}) {
				t.Errorf("Read with %s: %v, %d; want %d", what, s, e, want)
			}
		}
		if s, e := sc.Start(p); e != want || !reflect.DeepEqual(s, api.State{}) {
			t.Errorf("Start with %s: %v, %d; want %d", what, s, e, want)
		}
		if m, e := sc.New(p); e != want || !reflect.DeepEqual(m, api.Machine{}) {
			t.Errorf("New with %s: %d; want %d", what, e, want)
		}
		for _, order := range [][]int{nil, {0}, {7, -1}, {0, 0, 0, 0, 1, 1, 1, 1, 2, 2, 2, 2}} {
			if f, e := sc.Play(p, order); e != want || f != (api.Final{}) {
				t.Errorf("Play with %s: %v, %d; want %d", what, f, e, want)
			}
		}
		m, e := sc.Machine(p,
			func(api.State) []api.Pick { never(); return nil },
			func(s api.State, _ api.Pick) (api.State, bool) { never(); return s, true },
			func(api.State) bool { never(); return true })
		if e != want || !reflect.DeepEqual(m, api.Machine{}) {
			t.Errorf("Machine with %s: %d; want %d", what, e, want)
		}
	}
	for _, e := range []api.Errno{api.ErrThreads, api.ErrReg, api.ErrRegisters, api.ErrName, api.ErrLocs, api.ErrOp, api.ErrEvents} {
		if seen[e] == 0 {
			t.Errorf("no program is refused with %d", e)
		}
	}
}

// R4: what is handed in is not changed, in its spare room neither; what is handed out shares no memory.
func TestTextMemory(t *testing.T) {
	roll := dice(116)
	for range 100 {
		p := spareProg(someProg(roll, 3))
		s := spareState(someState(roll, p))
		before := whole(reflect.ValueOf(p)) + whole(reflect.ValueOf(s))
		text, _ := sc.Code(p, s)
		a, _ := sc.Read(p, text)
		b, _ := sc.Read(p, text)
		first, _ := sc.Start(p)
		second, _ := sc.Start(p)
		start := evenState(second)
		apartState(t, first)
		apartState(t, a)
		spoilState(&a)
		spoilState(&first)
		if after := whole(reflect.ValueOf(p)) + whole(reflect.ValueOf(s)); after != before {
			t.Fatalf("arguments have changed: %s; they were %s", after, before)
		}
		if !sameState(b, s) || !sameState(second, start) {
			t.Fatal("answers share memory")
		}
	}
}

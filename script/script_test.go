package script_test

import (
	"fmt"
	"math"
	"slices"
	"strings"
	"testing"

	"weir/api"
	"weir/script"
)

// letters is a machine whose states are letters: a step of the thread i leads to the i-th one, those of threads from 4 on can't be done.
func letters() api.Machine {
	return api.Machine{Start: "a", Step: func(s string, k api.Pick) (string, bool) {
		if k.Thread < 0 || k.Thread > 3 {
			return "z", false
		}
		return string("abcd"[k.Thread]), true
	}}
}

// by is the script that leads through letters; - is a pick that can't be done.
func by(text string) []api.Pick {
	var l []api.Pick
	for i, c := range text {
		if c == '-' {
			l = append(l, api.Pick{Thread: 4, Loc: i})
		} else {
			l = append(l, api.Pick{Thread: int(c - 'a'), Kind: i})
		}
	}
	return l
}

// path is the letters through which a script leads; upper ones stand where picks were not taken.
func path(states []string, taken []bool) string {
	text := states[0]
	for i, ok := range taken {
		if ok {
			text += states[i+1]
		} else {
			text += strings.ToUpper(states[i+1])
		}
	}
	return text
}

// 15.2, 15.3: scripts that are written out. The picks have unlike Kinds, so that it is seen which of them are left.
func TestLetters(t *testing.T) {
	m := letters()
	for _, c := range []struct{ script, path, taken, straight string }{
		{"", "a", "", ""},
		{"-", "aA", "", ""},
		{"--", "aAA", "", ""},
		{"b", "ab", "0", "0"},
		{"a", "aa", "0", ""},
		{"aaa", "aaaa", "012", ""},
		{"bcd", "abcd", "012", "012"},
		{"-b-c-", "aAbBcC", "13", "13"},
		{"ba", "aba", "01", ""},
		{"bad", "abad", "012", "2"},
		{"bbc", "abbc", "012", "02"},
		{"bcb", "abcb", "012", "0"},
		{"bcbdc", "abcbdc", "01234", "034"},      // c comes again behind the round of b
		{"bcdbc", "abcdbc", "01234", "04"},       // the first place that has a like one, not the shortest round
		{"bcdcbd", "abcdcbd", "012345", "05"},    // a round within a round
		{"bcbbcbd", "abcbbcbd", "0123456", "06"}, // the last place that is like it, not the next one
		{"bcbcbcb", "abcbcbcb", "0123456", "0"},
		{"bc-ad-d", "abcCadDd", "01346", "4"}, // back to the start
		{"bcadcb", "abcadcb", "012345", "345"},
		{"b-b-", "abBbB", "02", "0"}, // picks that are not taken are no rounds
	} {
		l := by(c.script)
		states, taken := script.Replay(m, l)
		if len(states) != len(l)+1 || len(taken) != len(l) || path(states, taken) != c.path {
			t.Errorf("Replay of %q: %q, %v; want %s", c.script, states, taken, c.path)
			continue
		}
		for _, x := range []struct {
			name string
			got  []api.Pick
			want string
		}{{"Taken", script.Taken(m, l), c.taken}, {"Straight", script.Straight(m, l), c.straight}} {
			var want []api.Pick
			for _, i := range x.want {
				want = append(want, l[i-'0'])
			}
			if !slices.Equal(x.got, want) {
				t.Errorf("%s of %q: %v; want %v", x.name, c.script, x.got, want)
			}
		}
	}
}

// hold holds all that is said of a script that a machine plays against the chapter's words.
func hold(t *testing.T, m api.Machine, l []api.Pick) {
	t.Helper()
	now, wantStates, wantTaken, picks := m.Start, []string{m.Start}, []bool(nil), []api.Pick(nil)
	for _, k := range l {
		next, ok := m.Step(now, k)
		if ok {
			now, picks = next, append(picks, k)
		}
		wantStates, wantTaken = append(wantStates, now), append(wantTaken, ok)
	}
	states, taken := script.Replay(m, l)
	if !slices.Equal(states, wantStates) || !slices.Equal(taken, wantTaken) {
		t.Fatalf("Replay of %v: %q, %v; want %q, %v", l, states, taken, wantStates, wantTaken)
	}
	if k := script.Taken(m, l); !slices.Equal(k, picks) {
		t.Fatalf("Taken of %v: %v; want %v", l, k, picks)
	}
	if k, want := script.Straight(m, l), saysStraight(m, picks); !slices.Equal(k, want) {
		t.Fatalf("Straight of %v: %v; want %v", l, k, want)
	}
	if m.End == nil {
		return
	}
	final, over := script.Outcome(m, l)
	if f, ok := m.End(now); final != f || over != ok {
		t.Fatalf("Outcome of %v: %v, %v; want %v, %v", l, final, over, f, ok)
	}
}

// 15.2, 15.3: all ways of at most seven picks through three letters.
func TestAllPaths(t *testing.T) {
	for _, text := range textsOf("abc", 7) {
		hold(t, letters(), by(text))
	}
	for _, text := range textsOf("ab-", 6) {
		hold(t, letters(), by(text))
	}
}

// 15.2, 15.3: unruly scripts, long ones too.
func TestSomeScripts(t *testing.T) {
	roll := dice(152)
	some, none, less := 0, 0, 0
	for n := range 4000 {
		c := someChart(roll, 1+n%12)
		m, l := c.machine(), someScript(roll, 20)
		hold(t, m, l)
		k := script.Taken(m, l)
		some, none = some+min(len(k), 1), none+min(len(l)-len(k), 1)
		if straight := script.Straight(m, l); len(straight) > 0 && len(straight) < len(k) {
			less++
		}
	}
	if some < 1000 || none < 1000 || less < 1000 {
		t.Errorf("%d scripts with picks that are taken, %d with others, %d that are made straight", some, none, less)
	}
	for range 20 {
		hold(t, someChart(roll, 40).machine(), someScript(roll, 300))
	}
}

// 15.4: unruly charts, from each state on, with each number of picks that may be done.
func TestSomeFinishes(t *testing.T) {
	roll := dice(154)
	over, refused, empty, stopped := 0, 0, 0, 0
	for range 2000 {
		c := someChart(roll, 9)
		m := c.machine()
		for _, n := range c {
			for _, most := range []int{math.MinInt, -1, 0, 1, 2, 3, 5, 30} {
				l, s := script.Finish(m, n.text, most)
				want, last := saysFinish(m, n.text, most)
				if !slices.Equal(l, want) || s != last {
					t.Fatalf("Finish of %v from %q, %d: %v, %q; want %v, %q", c, n.text, most, l, s, want, last)
				}
				switch at := c.at(s); {
				case len(l) < 2:
				case at.end:
					over++
				case len(l) == most:
					stopped++
				case len(at.picks) == 0:
					empty++
				default:
					refused++
				}
			}
		}
	}
	if min(over, refused, empty, stopped) < 300 {
		t.Errorf("%d come to an end, %d to a pick that can't be done, %d to no pick, %d are stopped", over, refused, empty, stopped)
	}
}

// counter is a machine without end and without rounds: each step is one x more; it ends at so many, if that is above 0.
func counter(last int) api.Machine {
	return api.Machine{
		Picks: func(s string) []api.Pick { return []api.Pick{st(len(s) % 3), fl(9, 9)} },
		Step:  func(s string, k api.Pick) (string, bool) { return s + "x", k == st(len(s)%3) },
		End:   func(s string) (api.Final, bool) { return valued(int64(len(s))), last > 0 && len(s) >= last },
	}
}

// 15.4: most is kept, where the machine goes on and on; where it ends, most may be any number.
func TestFinishMost(t *testing.T) {
	for _, most := range []int{1, 2, 7, 1000} {
		l, s := script.Finish(counter(0), "x", most)
		if len(l) != most || len(s) != most+1 || l[0] != st(1) || l[most-1] != st(most%3) {
			t.Errorf("Finish of an endless machine, %d: %d picks, %d bytes", most, len(l), len(s))
		}
	}
	for _, most := range []int{5, 6, 1 << 40, math.MaxInt} {
		if l, s := script.Finish(counter(6), "x", most); s != "xxxxxx" || !slices.Equal(l, []api.Pick{st(1), st(2), st(0), st(1), st(2)}) {
			t.Errorf("Finish, %d: %v, %q", most, l, s)
		}
	}
	if l, s := script.Finish(counter(6), "x", 4); s != "xxxxx" || len(l) != 4 {
		t.Errorf("Finish, 4: %v, %q", l, s)
	}
	if l, s := script.Finish(counter(6), "xxxxxx", 4); s != "xxxxxx" || len(l) != 0 {
		t.Errorf("Finish from an end: %v, %q", l, s)
	}
	// The first pick alone counts: where it can't be done, a second one that can is not asked for.
	m := counter(6)
	m.Picks = func(s string) []api.Pick { return []api.Pick{fl(9, 9), st(len(s) % 3)} }
	if l, s := script.Finish(m, "xx", 4); s != "xx" || len(l) != 0 {
		t.Errorf("Finish with a first pick that can't be done: %v, %q", l, s)
	}
}

// 15.2 to 15.4: machines whose functions are nil, one, two or all of them.
func TestNilFunctions(t *testing.T) {
	l := []api.Pick{st(0), st(5), st(1)}
	for which := range 8 {
		m := counter(2)
		m.Start = ""
		if which&1 > 0 {
			m.Picks = nil
		}
		if which&2 > 0 {
			m.Step = nil
		}
		if which&4 > 0 {
			m.End = nil
		}
		wantPath, wantTaken, wantFinal := []string{"", "x", "x", "xx"}, []bool{true, false, true}, valued(2)
		wantPicks, wantDone, wantLast := []api.Pick{st(0), st(1)}, []api.Pick{st(0), st(1)}, "xx"
		if m.End == nil {
			wantFinal, wantDone, wantLast = api.Final{}, append(wantDone, st(2)), "xxx"
		}
		if m.Step == nil {
			wantPath, wantTaken, wantPicks = []string{"", "", "", ""}, []bool{false, false, false}, nil
			if m.End != nil {
				wantFinal = valued(0)
			}
		}
		if m.Step == nil || m.Picks == nil {
			wantDone, wantLast = nil, ""
		}
		states, taken := script.Replay(m, l)
		if !slices.Equal(states, wantPath) || !slices.Equal(taken, wantTaken) {
			t.Errorf("Replay, %b: %q, %v", which, states, taken)
		}
		if f, ok := script.Outcome(m, l); f != wantFinal || ok != (m.End != nil && m.Step != nil) {
			t.Errorf("Outcome, %b: %v, %v", which, f, ok)
		}
		if k := script.Taken(m, l); !slices.Equal(k, wantPicks) {
			t.Errorf("Taken, %b: %v", which, k)
		}
		if k := script.Straight(m, l); !slices.Equal(k, wantPicks) {
			t.Errorf("Straight, %b: %v", which, k)
		}
		if k, s := script.Finish(m, "", 3); !slices.Equal(k, wantDone) || s != wantLast {
			t.Errorf("Finish, %b: %v, %q", which, k, s)
		}
	}
}

// holdWhatFollows holds 15.5 of a machine and a script, and of one that is put behind it.
func holdWhatFollows(t *testing.T, m api.Machine, l, behind []api.Pick) {
	t.Helper()
	states, _ := script.Replay(m, l)
	last := states[len(states)-1]

	picks := script.Taken(m, l)
	through, taken := script.Replay(m, picks)
	if slices.Contains(taken, false) || through[len(through)-1] != last {
		t.Fatalf("Taken of %v: %v, which leads to %q", l, picks, through[len(through)-1])
	}
	if !slices.Equal(slices.Compact(slices.Clone(through)), slices.Compact(slices.Clone(states))) {
		t.Fatalf("Taken of %v leads through %q, the script through %q", l, through, states)
	}

	straight := script.Straight(m, l)
	line, taken := script.Replay(m, straight)
	if slices.Contains(taken, false) || line[len(line)-1] != last {
		t.Fatalf("Straight of %v: %v, which leads to %q, not %q", l, straight, line[len(line)-1], last)
	}
	if n := len(slices.Compact(slices.Sorted(slices.Values(line)))); n != len(line) {
		t.Fatalf("Straight of %v comes to a state twice: %q", l, line)
	}

	later := m
	later.Start = last
	wholeStates, wholeTaken := script.Replay(m, slices.Concat(l, behind))
	backStates, backTaken := script.Replay(later, behind)
	_, frontTaken := script.Replay(m, l)
	if !slices.Equal(wholeStates, slices.Concat(states, backStates[1:])) || !slices.Equal(wholeTaken, slices.Concat(frontTaken, backTaken)) {
		t.Fatalf("%v behind %v: %q, %v", behind, l, wholeStates, wholeTaken)
	}
}

// 15.5: unruly charts.
func TestWhatFollows(t *testing.T) {
	roll := dice(155)
	for n := range 4000 {
		c := someChart(roll, 1+n%12)
		holdWhatFollows(t, c.machine(), someScript(roll, 20), someScript(roll, 9))
	}
}

// spare is a list with something in the room behind its end.
func spare(l []api.Pick) []api.Pick {
	return append(slices.Clone(l), st(77), st(78))[:len(l)]
}

// wholeOf is what a list holds, its spare room too.
func wholeOf[T any](l []T) string { return fmt.Sprint(len(l), l[:cap(l)]) }

// spoil writes over a list and its spare room.
func spoil[T any](l []T, with T) {
	for i := range l[:cap(l)] {
		l[:cap(l)][i] = with
	}
}

// 15.1 to 15.4, R4: what is handed in is not changed, and what is handed out is new memory.
func TestMemory(t *testing.T) {
	m := letters()
	for _, text := range []string{"", "b", "bcd", "bcbdc", "b-c-d-", "---"} {
		l := spare(by(text))
		was := wholeOf(l)
		states, taken := script.Replay(m, l)
		want := fmt.Sprint(states, taken)
		picks, straight := script.Taken(m, l), script.Straight(m, l)
		wantPicks, wantStraight := fmt.Sprint(picks), fmt.Sprint(straight)
		spoil(picks, st(5))
		if is := fmt.Sprint(straight); is != wantStraight {
			t.Errorf("%q: Straight was %s; it is %s", text, wantStraight, is)
		}
		spoil(straight, st(6))
		spoil(states, "spoilt")
		spoil(taken, true)
		script.Text(l)
		script.Outcome(m, l)
		if is := wholeOf(l); is != was {
			t.Errorf("%q: the script was %s; it is %s", text, was, is)
		}
		states, taken = script.Replay(m, l)
		if is := fmt.Sprint(states, taken); is != want || fmt.Sprint(script.Taken(m, l)) != wantPicks || fmt.Sprint(script.Straight(m, l)) != wantStraight {
			t.Errorf("%q: again %s; want %s", text, is, want)
		}
	}
	l, _ := script.Parse("0:s 1:f")
	spoil(l, st(5))
	if k, err := script.Parse("0:s 1:f"); !slices.Equal(k, []api.Pick{st(0), fl(1, 0)}) || err != nil {
		t.Errorf("Parse again: %v, %v", k, err)
	}
}

// 15.4, R4: what Picks answers is not changed and not kept, though it is the same memory each time.
func TestFinishMemory(t *testing.T) {
	m := counter(6)
	room := spare([]api.Pick{st(0), fl(9, 9)})
	m.Picks = func(s string) []api.Pick {
		if len(room) != 2 || room[1] != fl(9, 9) || room[:4][2] != st(77) || room[:4][3] != st(78) {
			t.Errorf("at %q: %v", s, room[:cap(room)])
		}
		room[0] = st(len(s) % 3)
		return room
	}
	l, _ := script.Finish(m, "", 99)
	want := []api.Pick{st(0), st(1), st(2), st(0), st(1), st(2)}
	if !slices.Equal(l, want) {
		t.Fatalf("Finish: %v", l)
	}
	spoil(l, st(5))
	if room[0] != st(2) {
		t.Errorf("Picks' list: %v", room)
	}
	if l, _ := script.Finish(m, "", 99); !slices.Equal(l, want) {
		t.Errorf("Finish again: %v", l)
	}
}

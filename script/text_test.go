package script_test

import (
	"errors"
	"fmt"
	"math"
	"slices"
	"strings"
	"testing"

	"weir/api"
	"weir/script"
)

// placed is what Parse answers, as a text: the script, or the error with its place.
func placed(s string) string {
	l, err := script.Parse(s)
	var at *api.PosError
	if errors.As(err, &at) && at.Err == api.ErrPick && len(l) == 0 {
		return fmt.Sprintf("%d:%d", at.Line, at.Col)
	}
	if err != nil {
		return fmt.Sprint(l, err)
	}
	return fmt.Sprint(l)
}

// saysPlaced is the same by the chapter's words.
func saysPlaced(s string) string {
	l, line, col := saysParse(s)
	if line > 0 {
		return fmt.Sprintf("%d:%d", line, col)
	}
	return fmt.Sprint(l)
}

// 15.1: the chapter's example 1.
func TestTextExamples(t *testing.T) {
	l := []api.Pick{st(0), fl(1, 0), fl(1, 2)}
	if s, e := script.Text(l); s != "0:s 1:f 1:f:2" || e != api.OK {
		t.Errorf("Text: %q, %d", s, e)
	}
	if k, err := script.Parse("0:s 1:f 1:f:2"); !slices.Equal(k, l) || err != nil {
		t.Errorf("Parse: %v, %v", k, err)
	}
	for s, want := range map[string]string{"0:s  1:x": "1:6", "00:s": "1:1", "0:f:0": "1:1", "0:s:0": "1:1"} {
		if got := placed(s); got != want {
			t.Errorf("Parse(%q): %s; want %s", s, got, want)
		}
	}
}

// 15.1: nothing, and picks at the ends of what has a text, written out.
func TestTextEdges(t *testing.T) {
	for _, c := range []struct {
		l    []api.Pick
		want string
	}{
		{nil, ""},
		{[]api.Pick{}, ""},
		{[]api.Pick{st(9999), fl(9999, 9999)}, "9999:s 9999:f:9999"},
		{[]api.Pick{fl(10, 100), fl(1000, 1)}, "10:f:100 1000:f:1"},
	} {
		if s, e := script.Text(c.l); s != c.want || e != api.OK {
			t.Errorf("Text(%v): %q, %d; want %q", c.l, s, e, c.want)
		}
		if l, err := script.Parse(c.want); !slices.Equal(l, c.l) || err != nil {
			t.Errorf("Parse(%q): %v, %v; want %v", c.want, l, err, c.l)
		}
	}
	for _, s := range []string{" ", "\n\n", " \t\r\n "} {
		if l, err := script.Parse(s); len(l) != 0 || err != nil {
			t.Errorf("Parse(%q): %v, %v", s, l, err)
		}
	}
}

// 15.1: picks of all kinds of numbers, alone, behind and ahead of one that has a text.
func TestTextOfAnyPick(t *testing.T) {
	numbers := []int{math.MinInt, -10000, -1, 0, 1, 2, 3, 9, 10, 99, 100, 999, 1000, 9998, 9999, 10000, 10001, 1 << 32, math.MaxInt}
	kinds := []int{math.MinInt, -1, 0, api.PStep, api.PFlush, 3, 's', 'f', 1<<32 + 1, math.MaxInt}
	had := 0
	for _, thread := range numbers {
		for _, loc := range numbers {
			for _, kind := range kinds {
				k := api.Pick{Thread: thread, Kind: kind, Loc: loc}
				want, ok := saysText(k)
				wrong := api.ErrPick
				if ok {
					wrong = api.OK
					had++
				}
				for _, c := range []struct {
					l    []api.Pick
					want string
				}{{[]api.Pick{k}, want}, {[]api.Pick{st(0), k}, "0:s " + want}, {[]api.Pick{k, st(0)}, want + " 0:s"}} {
					if !ok {
						c.want = ""
					}
					if s, e := script.Text(c.l); s != c.want || e != wrong {
						t.Fatalf("Text(%v): %q, %d; want %q, %d", c.l, s, e, c.want, wrong)
					}
				}
			}
		}
	}
	if had != 12+12*12 {
		t.Errorf("%d picks with texts", had)
	}
}

// 15.1: all threads and all locations that have texts.
func TestAllNumbers(t *testing.T) {
	for n := range 10001 {
		for _, s := range []string{fmt.Sprintf("%d:s", n), fmt.Sprintf("%d:f", n), fmt.Sprintf("%d:f:7", n), fmt.Sprintf("7:f:%d", n)} {
			if got, want := placed(s), saysPlaced(s); got != want {
				t.Fatalf("Parse(%q): %s; want %s", s, got, want)
			}
			l, _, _ := saysParse(s)
			if x, e := script.Text(l); len(l) > 0 && (x != s || e != api.OK) {
				t.Fatalf("Text(%v): %q, %d; want %q", l, x, e, s)
			}
		}
	}
}

// 15.1: words that are nearly picks' texts.
func TestWrongWords(t *testing.T) {
	for _, s := range []string{
		"0", ":", "s", "0:", ":s", "0s", "0:S", "0:F", "0:ss", "0:sf", "0:s:", "0:f:", "0:f::1", "0::s", "::", "0:s:1", "0:f:1:", "0:f:1:2", "0:f:1:f", "0:f1", "0:1", "0:1:f",
		"-0:s", "-1:s", "+1:s", "01:s", "0000:s", "0x1:s", "0X1:f", "1e3:s", "1_0:s", "0:f:-1", "0:f:+1", "0:f:01", "0:f:0x1", "0:f:00", "10000:s", "10000:f", "0:f:10000", "65536:s", "4294967296:s",
		"9223372036854775808:s", "18446744073709551615:s", "18446744073709551616:s", "18446744073709551617:s", "0:f:18446744073709551616", "0:f:18446744073709551617", "0:f:340282366920938463463374607431768211457",
		"0:s,", "0:s;1:s", "(0:s)", "0:s(*c*)", "0:s//", "\"0:s\"", "x:s", "x:f:1", "0:f:x", "P0:s", "0:step", "٣:s", "0:ſ", "０:s", "0:s\x00", "\x000:s", "0\x00:s", "\xff", "0:\xff", "0:f:\xff", "\ufeff0:s", "0:s\v", "0:s\f1:s", "0:s\u00a0", "0:s\u2028", "0:s\u0085",
		strings.Repeat("0", 5000) + ":s", "0:f:" + strings.Repeat("1", 5000), strings.Repeat(":", 5000),
	} {
		for ahead, at := range map[string]string{"": "1:1", "1:f:2 ": "1:7", "\n\n\t": "3:2", "0:s\r": "1:5", "9:f\r\n9:f ": "2:5"} {
			for _, behind := range []string{"", " ", " 0:s", "\n00:s"} {
				if got := placed(ahead + s + behind); got != at {
					t.Errorf("Parse(%q): %s; want %s", ahead+s+behind, got, at)
				}
			}
		}
	}
}

// 15.1: of all bytes four are blanks: ahead of a word, within it, and behind it.
func TestBlanks(t *testing.T) {
	for b := range 256 {
		one := string([]byte{byte(b)})
		for _, s := range []string{one, one + "0:s", "0:s" + one, "0:s" + one + "1:f", "0:s\n" + one + one + "12:f:34" + one, "1" + one + "0:s", "0:f:" + one + "1"} {
			if got, want := placed(s), saysPlaced(s); got != want {
				t.Errorf("Parse(%q): %s; want %s", s, got, want)
			}
		}
		if got, blank := placed("0:s"+one+"1:f"), slices.Contains([]int{0x20, 0x9, 0xa, 0xd}, b); blank != (got == "[{0 1 0} {1 2 0}]") {
			t.Errorf("the byte %#x: %s", b, got)
		}
	}
}

// textsOf is all texts of some bytes, up to so many of them.
func textsOf(bytes string, most int) []string {
	all := []string{""}
	for at := 0; len(all[at]) < most; at++ {
		for i := range bytes {
			all = append(all, all[at]+bytes[i:i+1])
		}
	}
	return all
}

// 15.1, 15.5: all texts of a few bytes.
func TestSmallTexts(t *testing.T) {
	scripts := 0
	for _, s := range append(textsOf("01:sf \nx", 6), textsOf("0:f \n", 8)...) {
		if got, want := placed(s), saysPlaced(s); got != want {
			t.Fatalf("Parse(%q): %s; want %s", s, got, want)
		}
		l, err := script.Parse(s)
		if err != nil {
			continue
		}
		scripts += min(len(l), 1)
		if x, e := script.Text(l); x != strings.Join(saysWords(s), " ") || e != api.OK {
			t.Fatalf("Text of Parse(%q): %q, %d", s, x, e)
		}
	}
	if scripts < 500 {
		t.Errorf("%d scripts", scripts)
	}
}

// 15.1, 15.5: unruly texts of words, right and nearly right.
func TestSomeTexts(t *testing.T) {
	roll := dice(151)
	right := 0
	for range 20000 {
		var s strings.Builder
		for range roll(6) {
			s.WriteString(pick(roll, []string{"", "", " ", "\n", "\t", "\r\n", "  "}))
			k := pick(roll, []api.Pick{st(roll(12000)), fl(roll(12), 0), fl(roll(300), roll(12000)), st(roll(3))})
			text, _ := saysText(k)
			if roll(12) == 0 && text != "" {
				at := roll(len(text))
				text = text[:at] + pick(roll, []string{":", "0", "s", "f", " ", "\n", "-", "ü"}) + text[at+roll(2):]
			}
			s.WriteString(text + pick(roll, []string{" ", "\n", "\r", "\t", " \n ", "\n\n"}))
		}
		got, want := placed(s.String()), saysPlaced(s.String())
		if got != want {
			t.Fatalf("Parse(%q): %s; want %s", s.String(), got, want)
		}
		l, err := script.Parse(s.String())
		if err != nil {
			continue
		}
		right++
		x, e := script.Text(l)
		if x != strings.Join(saysWords(s.String()), " ") || e != api.OK {
			t.Fatalf("Text of Parse(%q): %q, %d", s.String(), x, e)
		}
		if again, err := script.Parse(x); !slices.Equal(again, l) || err != nil {
			t.Fatalf("Parse of Text(%v): %v, %v", l, again, err)
		}
	}
	if right < 4000 || right > 18000 {
		t.Errorf("%d texts are right", right)
	}
}

// 15.1: texts of just MaxText bytes, and of one more; what is wrong with a pick is told first by Text, the length by Parse.
func TestLongTexts(t *testing.T) {
	l := slices.Repeat([]api.Pick{st(0)}, api.MaxText/4) // 4 bytes each with its blank, but for the first one
	l[0] = fl(1, 2)                                      // 5 bytes
	if s, e := script.Text(l); e != api.ErrLong || s != "" {
		t.Errorf("Text of one byte more: %d bytes, %d", len(s), e)
	}
	l[0] = st(10) // 4 bytes
	s, e := script.Text(l)
	if len(s) != api.MaxText || e != api.OK {
		t.Fatalf("Text of MaxText bytes: %d bytes, %d", len(s), e)
	}
	if k, err := script.Parse(s); !slices.Equal(k, l) || err != nil {
		t.Errorf("Parse of MaxText bytes: %d, %v", len(k), err)
	}
	for _, long := range []string{s + " ", " " + s, s + "x", strings.Repeat(" ", api.MaxText+1), strings.Repeat("x", api.MaxText+1), strings.Repeat("0:s\n", api.MaxText)} {
		if k, err := script.Parse(long); err != error(api.ErrLong) || len(k) != 0 {
			t.Errorf("Parse of %d bytes: %d, %v", len(long), len(k), err)
		}
	}
	for _, at := range []int{0, len(l) / 2, len(l), 2*len(l) - 1} {
		wrong := slices.Concat(l, l)
		wrong[at].Kind = 3
		if s, e := script.Text(wrong); e != api.ErrPick || s != "" {
			t.Errorf("Text of a long script with a wrong pick at %d: %d bytes, %d", at, len(s), e)
		}
	}
}

// 15.1: places at the end of a text of MaxText bytes.
func TestLongPlaces(t *testing.T) {
	for s, want := range map[string]string{
		strings.Repeat(" ", api.MaxText-1) + "x":         fmt.Sprint("1:", api.MaxText),
		strings.Repeat("\n", api.MaxText-1) + "x":        fmt.Sprint(api.MaxText, ":1"),
		strings.Repeat("0:s\n", api.MaxText/4-1) + "0:x": fmt.Sprint(api.MaxText/4, ":1"),
		strings.Repeat("0:s ", api.MaxText/4-1) + "0:x":  fmt.Sprint("1:", api.MaxText-3),
		strings.Repeat("x", api.MaxText):                 "1:1",
		"\n" + strings.Repeat(":", api.MaxText-1):        "2:1",
	} {
		if got := placed(s); got != want {
			t.Errorf("Parse(%.20q..): %s; want %s", s, got, want)
		}
	}
}

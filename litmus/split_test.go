package litmus_test

import (
	"regexp"
	"slices"
	"strconv"
	"strings"
	"testing"

	"weir/api"
	"weir/litmus"
)

func itoa(n int) string { return strconv.Itoa(n) }

func checkSplit(t *testing.T, s string, want ...string) {
	t.Helper()
	if got := litmus.Split(s); !slices.Equal(got, want) {
		t.Errorf("Split(%.200q): %.300q; want %.300q", s, got, want)
	}
}

// 7.4: files, and what may stand ahead of them.
func TestSplit(t *testing.T) {
	checkSplit(t, sb+"\n"+sb+"\n", sb+"\n", sb+"\n")
	checkSplit(t, sb+"\n"+sb, sb+"\n", sb)
	checkSplit(t, "")
	checkSplit(t, " \t\r\n\n ")
	checkSplit(t, "a", "a")
	checkSplit(t, "\n a\n", "\n a\n")
	checkSplit(t, " \n\t\r\nX86 a", "X86 a")
	checkSplit(t, " \n\v\nX86 a", " \n\v\n", "X86 a")
	checkSplit(t, "\x00X86 a\nX86\tb\n\n\nX86 \n", "\x00X86 a\n", "X86\tb\n\n\n", "X86 \n")
	checkSplit(t, "X86\nX86\r\nX86", "X86\nX86\r\nX86")
	checkSplit(t, "X86 X86 a\n X86 b\nx86 c\nX864 d\nX86(**)e", "X86 X86 a\n X86 b\nx86 c\nX864 d\nX86(**)e")
	checkSplit(t, "a\rX86 b", "a\rX86 b")
	checkSplit(t, "(*\nX86 a\n*)", "(*\n", "X86 a\n*)")
	checkSplit(t, "\xff\nX86 \xfe\n\u00a0X86 a\n", "\xff\n", "X86 \xfe\n\u00a0X86 a\n")
	checkSplit(t, "\u00a0\nX86 a", "\u00a0\n", "X86 a")
}

// 7.4: all short texts of pieces at which something turns.
func TestSplitShortTexts(t *testing.T) {
	front := regexp.MustCompile(`(?m)^X86[ \t]`)
	blanks := regexp.MustCompile(`\A[ \t\n\r]*\z`)
	pieces := []string{"X86", " ", "\t", "\n", "\r", "a", "\v"}
	var grow func(s string, n int)
	grow = func(s string, n int) {
		var want []string
		cuts := front.FindAllStringIndex(s, -1)
		for i := range cuts {
			end := len(s)
			if i+1 < len(cuts) {
				end = cuts[i+1][0]
			}
			want = append(want, s[cuts[i][0]:end])
		}
		ahead := strings.TrimSuffix(s, strings.Join(want, ""))
		if !blanks.MatchString(ahead) {
			want = append([]string{ahead}, want...)
		}
		checkSplit(t, s, want...)
		if n == 0 {
			return
		}
		for _, p := range pieces {
			grow(s+p, n-1)
		}
	}
	grow("", 6)
	for _, ahead := range []string{"X86 ", "X86 a\n", "\n", "a\n"} {
		for _, behind := range []string{"", "X86 ", "\nX86\t", "X86\n"} {
			grow(ahead+behind, 3)
		}
	}
}

// 7.4, R6: texts that are longer than any limit; many files.
func TestSplitLongTexts(t *testing.T) {
	long := "X86 t " + strings.Repeat("x", 3*api.MaxText) + "\n"
	checkSplit(t, long+long, long, long)
	checkSplit(t, strings.Repeat("\n ", 2*api.MaxText))
	checkSplit(t, strings.Repeat(" \n", 2*api.MaxText)+long, long)
	l := litmus.Split(strings.Repeat("X86 \n", 300000))
	if len(l) != 300000 || slices.ContainsFunc(l, func(s string) bool { return s != "X86 \n" }) {
		t.Errorf("Split of many files: %d", len(l))
	}
	l = l[:cap(l)]
	spoil(l, "spoilt")
	checkSplit(t, "X86 \n", "X86 \n")
}

package state_test

import (
	"fmt"
	"math"
	"slices"
	"strings"
	"testing"

	"weir/api"
	"weir/state"
)

// 10.5: the chapter's example 3.
func TestExampleText(t *testing.T) {
	names := []api.Ref{{Thread: 0, Name: "EAX"}, {Thread: -1, Name: "x"}}
	if s, e := state.Text(of(0, -1), names); e != api.OK || s != "0:EAX=0; x=-1;" {
		t.Errorf("Text: %q, %d", s, e)
	}
	for _, none := range [][]api.Ref{nil, {}} {
		if s, e := state.Text(of(), none); e != api.OK || s != "" {
			t.Errorf("Text of nothing: %q, %d", s, e)
		}
	}
}

func checkText(t *testing.T, f api.Final, names []api.Ref) {
	t.Helper()
	s, e := state.Text(f, names)
	if want, err := saysText(f, names); s != want || e != err {
		t.Fatalf("Text(%s, %.300s): %.300q, %d; want %.300q, %d", short(f), fmt.Sprint(names), s, e, want, err)
	}
}

// refs is names of all kinds, of threads that there are and of some that there can't be.
func refs() []api.Ref {
	var l []api.Ref
	for _, name := range []string{"x", "EAX", "", " ", "=", ";", "\n", "\x00\xff", "0:EAX", strings.Repeat("n", 65), strings.Repeat("long", 1<<19)} {
		for _, thread := range []int{-1, 0, 1, 3, 9, 10, 12345, -2, -10, math.MaxInt, math.MinInt} {
			l = append(l, api.Ref{Thread: thread, Name: name})
		}
	}
	return l
}

// 10.5: each name and each value, one by one, and whatever stands beside them.
func TestTextOfOne(t *testing.T) {
	for _, r := range refs() {
		for _, v := range []int64{0, 5, math.MinInt64} {
			checkText(t, of(v), []api.Ref{r})
		}
	}
	for _, v := range values() {
		checkText(t, of(v), []api.Ref{{Thread: -1, Name: "x"}})
		checkText(t, of(v, 1, v), []api.Ref{{Thread: 2, Name: "R8"}, {Thread: -1, Name: "x"}, {Thread: -1}})
	}
}

// 10.5: right and wrong final states with too few, enough and too many names.
func TestTextErrors(t *testing.T) {
	names := slices.Repeat([]api.Ref{{Thread: 1, Name: "EBX"}, {Thread: -1, Name: "y"}}, 30)
	for _, f := range strangers() {
		for _, n := range []int{0, 1, 2, 3, 47, 48, 49, 50} {
			checkText(t, f, names[:n])
		}
	}
	for n := range 49 {
		for k := range 51 {
			checkText(t, of(make([]int64, n)...), names[:k])
		}
	}
}

// 10.6: the chapter's example 4.
func TestExampleCode(t *testing.T) {
	if s, e := state.Code(of(0, -1)); e != api.OK || s != "\x04\x00\x01" {
		t.Errorf("Code: %q, %d", s, e)
	}
	for _, s := range []string{"\x04\x00", "\x04\x00\x01\x00", "\x62" + strings.Repeat("\x00", 50), "\x62" + strings.Repeat("\x00", 49)} {
		if f, e := state.Decode(s); e != api.ErrState || f != (api.Final{}) {
			t.Errorf("Decode(%q): %s, %d", s, short(f), e)
		}
	}
}

func checkDecode(t *testing.T, s string) {
	t.Helper()
	f, e := state.Decode(s)
	want, err := saysDecode(s)
	if f != want || e != err {
		t.Fatalf("Decode(%.200q): %s, %d; want %s, %d", s, short(f), e, short(want), err)
	}
	if code, e := state.Code(f); err == api.OK && (e != api.OK || code != s) {
		t.Fatalf("Decode(%.200q) has the code %q, %d", s, code, e)
	}
}

// 10.6, 10.10: codes of right and wrong final states, and what Decode says of them, with each byte changed, less or more.
func TestCode(t *testing.T) {
	roll := dice(105)
	l := strangers()
	for range 500 {
		l = append(l, some(roll))
	}
	for _, f := range l {
		s, e := state.Code(f)
		if want, err := saysCode(f); s != want || e != err {
			t.Fatalf("Code(%s): %q, %d; want %q, %d", short(f), s, e, want, err)
		}
		if e != api.OK {
			continue
		}
		if back, e := state.Decode(s); back != f || e != api.OK {
			t.Fatalf("Decode of the code of %s: %s, %d", short(f), short(back), e)
		}
		for i := range len(s) {
			checkDecode(t, s[:i])
			checkDecode(t, s[i+1:])
			checkDecode(t, s[:i]+"\x80"+s[i:])
			checkDecode(t, s[:i]+string([]byte{s[i] ^ 128})+s[i+1:])
			for _, b := range []byte{0, 1, 2, 127, 128, 129, 255} {
				checkDecode(t, s[:i]+string([]byte{b})+s[i+1:])
			}
		}
		checkDecode(t, s+"\x00")
		checkDecode(t, s+s)
	}
}

// 10.6, 10.10: Decode of all short texts of some bytes, and of each first two bytes.
func TestDecodeShort(t *testing.T) {
	lists([]byte("\x00\x01\x02\x03\x04\x06\x60\x61\x62\x7f\x80\x81\xff"), 4, func(b []byte) { checkDecode(t, string(b)) })
	for a := range 256 {
		for b := range 256 {
			checkDecode(t, string([]byte{byte(a), byte(b)}))
			checkDecode(t, string([]byte{byte(a), byte(b)})+strings.Repeat("\x02", 47))
		}
	}
}

// 10.6: each N with as many values as it says, one less and one more, and numbers that are no N.
func TestDecodeLengths(t *testing.T) {
	for first := range 128 {
		for n := range 68 {
			checkDecode(t, string([]byte{byte(first)})+strings.Repeat("\x01", n))
		}
	}
	for _, head := range []string{"\x80", "\x80\x00", "\x84\x00", "\xe0\x00", "\x80\x01", "\x84\x80\x00", "\xff\xff\xff\xff\xff\xff\xff\xff\xff\x01", "\xfe\xff\xff\xff\xff\xff\xff\xff\xff\x01", "\xff\xff\xff\xff\xff\xff\xff\xff\xff\x02", "\x80\x80\x80\x80\x80\x80\x80\x80\x80\x01", "\x82\x80\x80\x80\x40", "\x80\x80\x80\x80\x20", "\xe0\x80\x80\x80\x20"} {
		for n := range 52 {
			checkDecode(t, head+strings.Repeat("\x00", n))
		}
	}
	for _, end := range []string{"", "\x80", "\x80\x00", "\x00", "\x80\x01", "\xff\xff\xff\xff\xff\xff\xff\xff\xff\x01", "\xff\xff\xff\xff\xff\xff\xff\xff\xff\x02", "\xff\xff\xff\xff\xff\xff\xff\xff\xff\x81\x00"} {
		for _, n := range []int{0, 1, 46, 47, 48} {
			checkDecode(t, string([]byte{byte(2 * n)})+strings.Repeat("\x03", n)+end)
			checkDecode(t, string([]byte{byte(2*n + 2)})+strings.Repeat("\x03", n)+end)
		}
	}
}

// 10.6, R6: texts that are longer than any limit.
func TestDecodeLong(t *testing.T) {
	for _, b := range []string{"\x00", "\x02", "\x60", "\x80", "\xff"} {
		long := strings.Repeat(b, api.MaxText+1)
		for _, s := range []string{long, "\x00" + long, "\x60" + long, "\x04\x00" + long} {
			if f, e := state.Decode(s); e != api.ErrState || f != (api.Final{}) {
				t.Errorf("Decode of very many bytes %q: %s, %d", b, short(f), e)
			}
		}
	}
}

// 10.10: unlike final states have unlike codes, and none begins another one.
func TestCodesApart(t *testing.T) {
	all := saysSort(strangers())
	for _, v := range values() {
		all = append(all, of(v), of(v, 0), of(0, v), of(v, v))
	}
	all = saysSort(all)
	codes := make([]string, len(all))
	for i, f := range all {
		code, e := state.Code(f)
		mustOK(t, e)
		codes[i] = code
	}
	for i, a := range codes {
		for k, b := range codes {
			if i != k && strings.HasPrefix(b, a) {
				t.Errorf("the code of %s begins that of %s", short(all[i]), short(all[k]))
			}
		}
	}
}

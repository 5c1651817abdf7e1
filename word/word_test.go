package word_test

import (
	"math"
	"math/big"
	"regexp"
	"strconv"
	"strings"
	"testing"

	"weir/api"
	"weir/word"
)

// dice is a row of words that look unruly and are the same at every run.
func dice(seed uint64) func() uint64 {
	return func() uint64 {
		seed += 0x9e3779b97f4a7c15
		z := (seed ^ seed>>30) * 0xbf58476d1ce4e5b9
		z = (z ^ z>>27) * 0x94d049bb133111eb
		return z ^ z>>31
	}
}

// values are those at which something turns, their neighbours, and unruly ones of all lengths.
func values() []int64 {
	all := []int64{0, math.MaxInt64, math.MinInt64}
	for _, base := range []int64{2, 10} {
		for p := int64(1); p > 0 && p <= math.MaxInt64/base; p *= base {
			for d := int64(-2); d <= 2; d++ {
				all = append(all, p+d, -p+d, p*base+d, -p*base+d)
			}
		}
	}
	next := dice(4)
	for i := range 64 * 50 {
		all = append(all, int64(next()>>(i%64)), -int64(next()>>(i%64)))
	}
	return all
}

var shape = regexp.MustCompile(`\A-?(0[xX][0-9a-fA-F]+|[0-9]+)\z`)

// saysParse is what 4.2 says of a text, reckoned without bounds.
func saysParse(s string) (int64, api.Errno) {
	if !shape.MatchString(s) {
		return 0, api.ErrNumber
	}
	digits, minus := strings.CutPrefix(s, "-")
	base := 10
	if len(digits) > 1 && (digits[1] == 'x' || digits[1] == 'X') {
		digits, base = digits[2:], 16
	}
	n, _ := new(big.Int).SetString(digits, base)
	bound := new(big.Int).SetUint64(math.MaxUint64)
	if minus {
		bound = new(big.Int).Lsh(big.NewInt(1), 63)
	}
	if n.Cmp(bound) > 0 {
		return 0, api.ErrBig
	}
	if minus {
		return new(big.Int).Neg(n).Int64(), api.OK
	}
	return int64(n.Uint64()), api.OK
}

// saysNext is what 4.1 says of a place, found by trying all ends.
func saysNext(s string, at int) (int64, int, api.Errno) {
	if at < 0 || at > len(s) {
		return 0, 0, api.ErrNumber
	}
	for n := len(s) - at; n > 0; n-- {
		switch v, err := saysParse(s[at : at+n]); err {
		case api.OK:
			return v, n, api.OK
		case api.ErrBig:
			return 0, 0, api.ErrBig
		}
	}
	return 0, 0, api.ErrNumber
}

func checkParse(t *testing.T, s string) {
	t.Helper()
	v, err := word.Parse(s)
	if want, wantErr := saysParse(s); v != want || err != wantErr {
		t.Errorf("Parse(%q): %d, %d; want %d, %d", s, v, err, want, wantErr)
	}
}

func checkNext(t *testing.T, s string, at int) {
	t.Helper()
	v, n, err := word.Next(s, at)
	want, length, wantErr := saysNext(s, at)
	if v != want || n != length || err != wantErr {
		t.Errorf("Next(%q, %d): %d, %d, %d; want %d, %d, %d", s, at, v, n, err, want, length, wantErr)
	}
}

// texts hands a test all texts of up to some length of some bytes.
func texts(bytes string, length int, test func(s string)) {
	test("")
	if length == 0 {
		return
	}
	for i := range len(bytes) {
		texts(bytes, length-1, func(s string) { test(bytes[i:i+1] + s) })
	}
}

// edgy are numbers that are just, or just not, too big, with and without what may stand ahead of and behind them.
func edgy() []string {
	var all []string
	for _, digits := range []string{
		"9223372036854775807", "9223372036854775808", "9223372036854775809",
		"18446744073709551614", "18446744073709551615", "18446744073709551616", "18446744073709551625",
		"18446744073709551620", "99999999999999999999", "184467440737095516150", "36893488147419103231",
		"0x7fffffffffffffff", "0x8000000000000000", "0X8000000000000001", "0xFFFFFFFFFFFFFFFF", "0xffffffffffffffff",
		"0x10000000000000000", "0xfffffffffffffffff", "0X1fFfFfFfFfFfFfFfF", "0x100000000000000000000000000000000",
		strings.Repeat("9", 5000), "0x" + strings.Repeat("f", 5000), "1" + strings.Repeat("0", 5000),
		strings.Repeat("0", 5000), strings.Repeat("0", 5000) + "18446744073709551615", strings.Repeat("0", 5000) + "18446744073709551616",
		"0x" + strings.Repeat("0", 5000) + "ffffffffffffffff", "0x" + strings.Repeat("0", 5000) + "10000000000000000",
	} {
		for _, ahead := range []string{"", "-", "--", "+", " ", "0", "-0"} {
			for _, behind := range []string{"", " ", "x", "g", "-", ".", "_", "\x00", "\xff"} {
				all = append(all, ahead+digits+behind)
			}
		}
	}
	return all
}

// The chapter's examples 1 and 2.
func TestExamplesOfNumbers(t *testing.T) {
	for s, want := range map[string]int64{"12": 12, "-0x10": -16, "0XfF": 255, "18446744073709551615": -1, "-9223372036854775808": math.MinInt64, "007": 7} {
		if v, err := word.Parse(s); v != want || err != api.OK {
			t.Errorf("Parse(%q): %d, %d; want %d", s, v, err, want)
		}
	}
	for _, s := range []string{"18446744073709551616", "-9223372036854775809"} {
		if v, err := word.Parse(s); v != 0 || err != api.ErrBig {
			t.Errorf("Parse(%q): %d, %d; want ErrBig", s, v, err)
		}
	}
	for _, s := range []string{"", "-", "0x", "+1", "1a", " 1"} {
		if v, err := word.Parse(s); v != 0 || err != api.ErrNumber {
			t.Errorf("Parse(%q): %d, %d; want ErrNumber", s, v, err)
		}
	}
	for _, c := range []struct {
		s     string
		at, n int
		v     int64
		err   api.Errno
	}{
		{"x=0x1g", 2, 3, 1, api.OK},
		{"12,", 0, 2, 12, api.OK},
		{"0x", 0, 1, 0, api.OK},
		{"-0x", 0, 2, 0, api.OK},
		{"-0X1", 0, 4, -1, api.OK},
		{"1", 1, 0, 0, api.ErrNumber},
		{"-0xffffffffffffffff", 0, 0, 0, api.ErrBig},
		{"-0xffffffffffffffff", 1, 18, -1, api.OK},
	} {
		if v, n, err := word.Next(c.s, c.at); v != c.v || n != c.n || err != c.err {
			t.Errorf("Next(%q, %d): %d, %d, %d; want %d, %d, %d", c.s, c.at, v, n, err, c.v, c.n, c.err)
		}
	}
}

// 4.1, 4.2
func TestShortTexts(t *testing.T) {
	texts("-0189afFAxXgG+ _", 4, func(s string) {
		checkParse(t, s)
		for at := -1; at <= len(s)+1; at++ {
			checkNext(t, s, at)
		}
	})
	texts("-0xX1f", 6, func(s string) {
		checkParse(t, s)
		checkNext(t, s, 0)
	})
}

// 4.1, 4.2: each byte, where a digit, a sign or a mark may stand.
func TestAllBytes(t *testing.T) {
	for b := range 256 {
		c := string([]byte{byte(b)})
		for _, s := range []string{c, c + "1", "-" + c, "1" + c, "0" + c + "1", "0x" + c, "0x1" + c, "-0" + c + "f", "0x" + c + "1", "é" + c} {
			checkParse(t, s)
			for at := range len(s) + 1 {
				checkNext(t, s, at)
			}
		}
	}
}

// 4.1, 4.2: what is too big, and what is not.
func TestEdges(t *testing.T) {
	for _, s := range edgy() {
		checkParse(t, s)
		for at := range 3 {
			checkNext(t, s, at)
		}
	}
}

// 4.1
func TestPlacesOutside(t *testing.T) {
	for _, s := range []string{"", "1", "123", "-0x1"} {
		for _, at := range []int{math.MinInt, math.MinInt + 1, -1, len(s), len(s) + 1, math.MaxInt - 1, math.MaxInt} {
			if v, n, err := word.Next(s, at); v != 0 || n != 0 || err != api.ErrNumber {
				t.Errorf("Next(%q, %d): %d, %d, %d; want ErrNumber", s, at, v, n, err)
			}
		}
	}
}

// 4.3, and the chapter's example 3
func TestTexts(t *testing.T) {
	for v, want := range map[int64][3]string{
		0:             {"0", "0x0", "0"},
		7:             {"7", "0x7", "7"},
		-1:            {"-1", "0xffffffffffffffff", "18446744073709551615"},
		4096:          {"4096", "0x1000", "4096"},
		0xabcdef:      {"11259375", "0xabcdef", "11259375"},
		math.MaxInt64: {"9223372036854775807", "0x7fffffffffffffff", "9223372036854775807"},
		math.MinInt64: {"-9223372036854775808", "0x8000000000000000", "9223372036854775808"},
	} {
		if got := [3]string{word.Text(v), word.Hex(v), word.Unsigned(v)}; got != want {
			t.Errorf("%d: %q; want %q", v, got, want)
		}
	}
	for _, v := range values() {
		u := new(big.Int).SetUint64(uint64(v))
		want := [3]string{big.NewInt(v).String(), "0x" + u.Text(16), u.String()}
		if got := [3]string{word.Text(v), word.Hex(v), word.Unsigned(v)}; got != want {
			t.Errorf("%d: %q; want %q", v, got, want)
		}
	}
}

// 4.5
func TestParseOfTexts(t *testing.T) {
	for _, v := range values() {
		for _, s := range []string{word.Text(v), word.Hex(v), word.Unsigned(v)} {
			for _, s := range []string{s, strings.ToUpper(s), noughts(s, 1), noughts(s, 30)} {
				got, err := word.Parse(s)
				if got != v || err != api.OK || word.Text(got) != strconv.FormatInt(v, 10) {
					t.Errorf("Parse(%q): %d, %d; want %d", s, got, err, v)
				}
			}
		}
	}
}

// noughts puts noughts in front of a number's digits.
func noughts(s string, n int) string {
	digits, minus := strings.CutPrefix(s, "-")
	digits, hex := strings.CutPrefix(digits, "0x")
	digits = strings.Repeat("0", n) + digits
	if hex {
		digits = "0x" + digits
	}
	if minus {
		digits = "-" + digits
	}
	return digits
}

// 4.7
func TestNextAndParse(t *testing.T) {
	check := func(s string) {
		t.Helper()
		v, n, err := word.Next(s, 0)
		if err != api.OK {
			return
		}
		if got, err := word.Parse(s[:n]); got != v || err != api.OK {
			t.Errorf("Next(%q, 0): %d, %d; Parse of that: %d, %d", s, v, n, got, err)
		}
		if n < len(s) {
			if got, err := word.Parse(s[:n+1]); got != 0 || err != api.ErrNumber {
				t.Errorf("Next(%q, 0): %d, %d; Parse of one byte more: %d, %d", s, v, n, got, err)
			}
		}
	}
	texts("-01xXfg", 5, check)
	for _, s := range edgy() {
		check(s)
	}
}

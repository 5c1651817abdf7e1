package word_test

import (
	"math"
	"math/big"
	"strings"
	"testing"

	"weir/api"
	"weir/word"
)

// folded is the u of which 4's words make a value's code, reckoned without bounds.
func folded(v int64) *big.Int {
	u := new(big.Int).Lsh(big.NewInt(v), 1)
	if v < 0 {
		u.Neg(u).Sub(u, big.NewInt(1))
	}
	return u
}

// saysPut is a value's code by the words.
func saysPut(v int64) string {
	u, base := folded(v), big.NewInt(128)
	var code []byte
	for {
		digit := new(big.Int)
		u.DivMod(u, base, digit)
		if u.Sign() == 0 {
			return string(append(code, byte(digit.Int64())))
		}
		code = append(code, byte(digit.Int64()+128))
	}
}

// saysTake is what 4.4 says of a place: the bytes up to one below 128, and what they say.
func saysTake(s string, at int) (int64, int, api.Errno) {
	if at < 0 || at >= len(s) {
		return 0, 0, api.ErrNumber
	}
	n := 1
	for s[at+n-1] >= 128 {
		if at+n == len(s) {
			return 0, 0, api.ErrNumber
		}
		n++
	}
	code := s[at : at+n]
	if n > 1 && code[n-1] == 0 {
		return 0, 0, api.ErrNumber
	}
	u := new(big.Int)
	for i := n - 1; i >= 0; i-- {
		u.Lsh(u, 7).Add(u, big.NewInt(int64(code[i]%128)))
	}
	if u.BitLen() > 64 {
		return 0, 0, api.ErrNumber
	}
	odd := u.Bit(0) == 1
	if u.Rsh(u, 1); odd {
		u.Neg(u).Sub(u, big.NewInt(1))
	}
	return u.Int64(), n, api.OK
}

func checkTake(t *testing.T, s string, at int) {
	t.Helper()
	v, n, err := word.Take(s, at)
	want, length, wantErr := saysTake(s, at)
	if v != want || n != length || err != wantErr {
		t.Errorf("Take(%q, %d): %d, %d, %d; want %d, %d, %d", s, at, v, n, err, want, length, wantErr)
	}
}

// The chapter's example 4.
func TestExamplesOfCodes(t *testing.T) {
	for v, want := range map[int64]string{0: "\x00", -1: "\x01", 1: "\x02", 64: "\x80\x01", -64: "\x7f", math.MinInt64: strings.Repeat("\xff", 9) + "\x01"} {
		if s := word.Put(v); s != want {
			t.Errorf("Put(%d): %q; want %q", v, s, want)
		}
	}
	for _, s := range []string{"\x80\x00", "\x80"} {
		if v, n, err := word.Take(s, 0); v != 0 || n != 0 || err != api.ErrNumber {
			t.Errorf("Take(%q, 0): %d, %d, %d; want ErrNumber", s, v, n, err)
		}
	}
}

// 4.4
func TestPut(t *testing.T) {
	for _, v := range values() {
		if s := word.Put(v); s != saysPut(v) {
			t.Errorf("Put(%d): %q; want %q", v, s, saysPut(v))
		}
	}
}

// 4.4: short texts of bytes at which something turns, behind none, some and very many digits.
func TestTake(t *testing.T) {
	for _, digits := range []int{0, 1, 6, 7, 8, 9, 10, 70} {
		for _, ahead := range []string{"\x80", "\xff"} {
			texts("\x00\x01\x02\x3f\x7f\x80\x81\xfe\xff", 3, func(s string) {
				s = strings.Repeat(ahead, digits) + s
				for _, at := range []int{-1, 0, 1, digits, len(s) - 1, len(s), len(s) + 1} {
					checkTake(t, s, at)
				}
			})
		}
	}
	for a := range 256 {
		for b := range 256 {
			checkTake(t, string([]byte{byte(a), byte(b)}), 0)
			checkTake(t, strings.Repeat("\xff", 8)+string([]byte{byte(a), byte(b)}), 0)
		}
	}
}

// 4.4
func TestTakeOutside(t *testing.T) {
	for _, s := range []string{"", "\x00", "\x80\x01", "\x01\x01\x01"} {
		for _, at := range []int{math.MinInt, math.MinInt + 1, -1, len(s), len(s) + 1, math.MaxInt - 1, math.MaxInt} {
			if v, n, err := word.Take(s, at); v != 0 || n != 0 || err != api.ErrNumber {
				t.Errorf("Take(%q, %d): %d, %d, %d; want ErrNumber", s, at, v, n, err)
			}
		}
	}
}

// 4.6: Take of Put(v), with anything behind it, is v.
func TestTakeOfPut(t *testing.T) {
	for _, v := range values() {
		code := word.Put(v)
		for _, behind := range []string{"", "\x00", "\x01", "\x80", "\xff\xff", code} {
			if got, n, err := word.Take("\xff"+code+behind, 1); got != v || n != len(code) || err != api.OK {
				t.Errorf("Take of Put(%d) with %q behind it: %d, %d, %d", v, behind, got, n, err)
			}
		}
	}
}

// 4.6: what Take answers has just the bytes there as its code, and no beginning of them is one.
func TestPutOfTake(t *testing.T) {
	texts("\x00\x01\x7f\x80\x81\xff", 5, func(s string) {
		v, n, err := word.Take(s, 0)
		if err != api.OK {
			return
		}
		if code := word.Put(v); code != s[:n] {
			t.Errorf("Take(%q, 0): %d, %d; its code is %q", s, v, n, code)
		}
		for end := range n {
			if got, m, err := word.Take(s[:end], 0); got != 0 || m != 0 || err != api.ErrNumber {
				t.Errorf("Take(%q, 0), of a code's beginning: %d, %d, %d", s[:end], got, m, err)
			}
		}
	})
}

// 4.6: values put one behind the other are told apart.
func TestValuesInARow(t *testing.T) {
	var row strings.Builder
	for _, v := range values() {
		row.WriteString(word.Put(v))
	}
	s, at := row.String(), 0
	for i, want := range values() {
		v, n, err := word.Take(s, at)
		if v != want || err != api.OK {
			t.Fatalf("the value %d of the row, at %d: %d, %d; want %d", i, at, v, err, want)
		}
		at += n
	}
	if at != len(s) {
		t.Errorf("the row ends at %d; its values end at %d", len(s), at)
	}
}

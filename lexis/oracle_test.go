package lexis_test

import (
	"errors"
	"regexp"
	"slices"
	"strings"
	"testing"

	"weir/api"
	"weir/lexis"
	"weir/word"
)

// dice is a row of words that look unruly and are the same at every run.
func dice(seed uint64) func() uint64 {
	return func() uint64 {
		seed += 0x9e3779b97f4a7c15
		z := (seed ^ seed>>30) * 0xbf58476d1ce4e5b9
		z = (z ^ z>>27) * 0x94d049bb133111eb
		return z ^ z>>31
	}
}

// The chapter's words as patterns; a + or - of a name is taken with what must stand behind it.
var (
	namePattern   = regexp.MustCompile(`\A[A-Za-z_](?:[A-Za-z0-9_.]|[+-][A-Za-z0-9_])*`)
	numberPattern = regexp.MustCompile(`\A-?[0-9][A-Za-z0-9_.]*`)
	stringPattern = regexp.MustCompile(`\A"[^"\n]*`)
	signPattern   = regexp.MustCompile(`\A(?:/\\|\\/|\\|\^-1|[{}()\[\];,:|=$~&+*?])`)
)

// oracle is what is known of a text as it is read byte by byte from the front.
type oracle struct {
	text string
	at   int
}

// spot is the line and column of a place, counted from the text's beginning.
func (o *oracle) spot(at int) (int, int) {
	line, col := 1, 1
	for i := 0; i < at; i++ {
		col++
		if o.text[i] == '\n' {
			line, col = line+1, 1
		}
	}
	return line, col
}

func (o *oracle) fault(at int, err api.Errno) *api.PosError {
	line, col := o.spot(at)
	return &api.PosError{Line: line, Col: col, Err: err}
}

func (o *oracle) sees(s string) bool { return strings.HasPrefix(o.text[o.at:], s) }

// comment goes over a comment and those within it, each by a call of its own.
func (o *oracle) comment() bool {
	o.at += 2
	for o.at < len(o.text) {
		switch {
		case o.sees("*)"):
			o.at += 2
			return true
		case o.sees("(*"):
			if !o.comment() {
				return false
			}
		default:
			o.at++
		}
	}
	return false
}

func (o *oracle) blanks() *api.PosError {
	for o.at < len(o.text) {
		begin := o.at
		switch {
		case strings.Contains("\x20\x09\x0a\x0d", o.text[o.at:o.at+1]):
			o.at++
		case o.sees("(*"):
			if !o.comment() {
				return o.fault(begin, api.ErrComment)
			}
		default:
			return nil
		}
	}
	return nil
}

// token is the token at the place, which is no blank, or what is wrong.
func (o *oracle) token() (api.Token, *api.PosError) {
	rest := o.text[o.at:]
	t := api.Token{At: o.at}
	t.Line, t.Col = o.spot(o.at)
	switch {
	case namePattern.MatchString(rest):
		t.Kind, t.Text = api.TName, namePattern.FindString(rest)
		if len(t.Text) > 64 {
			return api.Token{}, o.fault(o.at, api.ErrLong)
		}
	case numberPattern.MatchString(rest):
		t.Kind, t.Text = api.TNumber, numberPattern.FindString(rest)
		v, err := word.Parse(t.Text)
		if err != api.OK {
			return api.Token{}, o.fault(o.at, err)
		}
		t.Value = v
	case stringPattern.MatchString(rest):
		t.Kind, t.Text = api.TString, stringPattern.FindString(rest)[1:]
		if end := 1 + len(t.Text); end == len(rest) || rest[end] != '"' {
			return api.Token{}, o.fault(o.at+end, api.ErrToken)
		}
		o.at += 2
	case signPattern.MatchString(rest):
		t.Kind, t.Text = api.TSign, signPattern.FindString(rest)
	default:
		return api.Token{}, o.fault(o.at, api.ErrToken)
	}
	o.at += len(t.Text)
	t.End = o.at
	return t, nil
}

// saysAll is the tokens of a text up to its end, or up to what is wrong.
func saysAll(s string) ([]api.Token, *api.PosError) {
	var all []api.Token
	o := &oracle{text: s}
	for {
		if p := o.blanks(); p != nil {
			return all, p
		}
		if o.at == len(s) {
			return all, nil
		}
		t, p := o.token()
		if p != nil {
			return all, p
		}
		all = append(all, t)
	}
}

// samePlace tells whether an error is a *api.PosError of that place around that Errno, or nil, as p is.
func samePlace(err error, p *api.PosError) bool {
	if p == nil {
		return err == nil
	}
	got, ok := err.(*api.PosError)
	return ok && got != nil && *got == *p && errors.Is(err, p.Err)
}

// check holds New, Tokens and All against the chapter's words.
func check(t *testing.T, s string) {
	t.Helper()
	want, p := saysAll(s)
	checkNext(t, s, want, p)
	checkTokens(t, s, want, p)
	got, err := lexis.All(s)
	if p != nil {
		want = nil
	}
	if !slices.Equal(got, want) || !samePlace(err, p) {
		t.Errorf("All(%.80q): %v, %v; want %v, %v", s, got, err, want, p)
	}
}

func checkNext(t *testing.T, s string, want []api.Token, p *api.PosError) {
	t.Helper()
	end := api.Token{Kind: api.TEnd, At: len(s), End: len(s)}
	end.Line, end.Col = (&oracle{text: s}).spot(len(s))
	if p != nil {
		end = api.Token{}
	}
	l := lexis.New(s)
	for i := range len(want) + 3 {
		got, err := l.Next()
		switch {
		case i < len(want) && (got != want[i] || err != nil):
			t.Errorf("Next %d of %.80q: %v, %v; want %v", i, s, got, err, want[i])
		case i >= len(want) && (got != end || !samePlace(err, p)):
			t.Errorf("Next %d of %.80q: %v, %v; want %v, %v", i, s, got, err, end, p)
		}
	}
}

func checkTokens(t *testing.T, s string, want []api.Token, p *api.PosError) {
	t.Helper()
	n := 0
	for got, err := range lexis.Tokens(s) {
		switch {
		case n < len(want) && (got != want[n] || err != nil):
			t.Errorf("Tokens(%.80q), %d: %v, %v; want %v", s, n, got, err, want[n])
		case n >= len(want) && (p == nil || got != (api.Token{}) || !samePlace(err, p)):
			t.Errorf("Tokens(%.80q), %d: %v, %v; want %v", s, n, got, err, p)
		}
		n++
	}
	steps := len(want)
	if p != nil {
		steps++
	}
	if n != steps {
		t.Errorf("Tokens(%.80q): %d steps; want %d", s, n, steps)
	}
}

// texts hands a test all texts of up to some length of some bytes.
func texts(bytes string, length int, test func(s string)) {
	test("")
	if length == 0 {
		return
	}
	for i := range len(bytes) {
		texts(bytes, length-1, func(s string) { test(bytes[i:i+1] + s) })
	}
}

// unruly are texts of up to 40 pieces, of which many are tokens, blanks, or halves of them.
func unruly(seed uint64, count int) []string {
	pieces := []string{
		"a", "MOV", "_x.y", "SB+mfence+po", "a-", "+b", "-", "+", ".", "0", "7", "-1", "0x10", "-0X1f", "12ab", "1.5", "0x",
		"18446744073709551615", "18446744073709551616", "-9223372036854775808", "-9223372036854775809",
		`"`, `"a b"`, `""`, `"(*"`, "\"a\nb\"", "{", "}", "(", ")", "[", "]", ";", ",", ":", "|", "=", "$", "~", "&", "*", "?",
		`/\`, `\/`, `\`, "/", "^", "^-", "^-1", "^-12", " ", "\t", "\r\n", "\n", "(*", "*)", "(**)", "(* \n *)", "(*(*)*)*)", "%", "\x00", "\xff", "é",
		strings.Repeat("n", 63), strings.Repeat("n", 64), "#", "@", "!", "'", "<", ">",
	}
	calm := []string{"a ", "b\n", ", ", "1 ", "-2\n", "[ ", `"s" `, " (* c *) ", "$", `/\ `}
	next := dice(seed)
	all := make([]string, count)
	for i := range all {
		var b strings.Builder
		// Most texts of many wild pieces are wrong early: calm ones let others go on for longer.
		wild := 1 + next()%8
		for range next() % 40 {
			if next()%8 < wild {
				b.WriteString(pieces[next()%uint64(len(pieces))])
			} else {
				b.WriteString(calm[next()%uint64(len(calm))])
			}
		}
		all[i] = b.String()
	}
	return all
}

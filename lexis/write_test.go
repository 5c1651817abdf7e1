package lexis_test

import (
	"slices"
	"strings"
	"testing"

	"weir/api"
	"weir/lexis"
)

func checkWrite(t *testing.T, l []api.Token, want string, wantErr api.Errno) {
	t.Helper()
	if s, err := lexis.Write(l); s != want || err != wantErr {
		t.Errorf("Write(%v): %.80q, %d; want %.80q, %d", l, s, err, want, wantErr)
	}
}

// said is tokens without what Write does not look at.
func said(l []api.Token) []api.Token {
	bare := make([]api.Token, len(l))
	for i, t := range l {
		bare[i] = api.Token{Kind: t.Kind, Text: t.Text}
	}
	return bare
}

// 5.5: ordinary tokens; what is no part of Kind and Text is not seen.
func TestWrite(t *testing.T) {
	checkWrite(t, nil, "", api.OK)
	checkWrite(t, []api.Token{}, "", api.OK)
	checkWrite(t, []api.Token{{Kind: api.TString}}, `""`, api.OK)
	checkWrite(t, []api.Token{
		{Kind: api.TName, Text: "a"}, {Kind: api.TSign, Text: "+"}, {Kind: api.TName, Text: "b+c"}, {Kind: api.TSign, Text: "("},
		{Kind: api.TSign, Text: "*"}, {Kind: api.TNumber, Text: "-0X1f"}, {Kind: api.TString, Text: "(* /\\ é\r"}, {Kind: api.TSign, Text: `/\`},
		{Kind: api.TSign, Text: `\`}, {Kind: api.TSign, Text: `\/`}, {Kind: api.TSign, Text: "^-1"}, {Kind: api.TNumber, Text: "2"},
	}, "a + b+c ( * -0X1f \"(* /\\ é\r\" /\\ \\ \\/ ^-1 2", api.OK)
	checkWrite(t, []api.Token{
		{Kind: api.TName, Text: "a", Value: 7, Line: -1, Col: 9, At: 100, End: -5},
		{Kind: api.TNumber, Text: "12", Value: 13, End: 1 << 62},
	}, "a 12", api.OK)
}

// 5.5: a token is one if All could answer it: held against all short texts, under each Kind.
func TestWriteOne(t *testing.T) {
	texts("a0.+-\"\n (*)/\\^1x%", 3, func(s string) { checkOne(t, s) })
	for c := range 256 {
		for _, ahead := range []string{"", "a", "1", "-1"} {
			checkOne(t, ahead+string([]byte{byte(c)}))
		}
	}
	for _, s := range []string{
		"18446744073709551615", "18446744073709551616", "-9223372036854775808", "-9223372036854775809", "(**)a", "a(**)", "{ }", "/\\\\",
		strings.Repeat("n", 64), strings.Repeat("n", 65), strings.Repeat("n", 64) + "-", `a"b`, `a" "b`, "^-12",
	} {
		checkOne(t, s)
	}
}

// checkOne asks of a text under each Kind whether it is all that some text's only token says.
func checkOne(t *testing.T, s string) {
	t.Helper()
	for kind := -1; kind <= 6; kind++ {
		bytes := s
		if kind == api.TString {
			bytes = `"` + s + `"`
		}
		token := api.Token{Kind: kind, Text: s}
		want, wantErr := "", api.ErrToken
		if l, p := saysAll(bytes); p == nil && len(l) == 1 && said(l)[0] == token {
			want, wantErr = bytes, api.OK
		}
		checkWrite(t, []api.Token{token}, want, wantErr)
	}
}

// 5.5: one wrong token among others, and the end's token, which All does not answer.
func TestWriteWrong(t *testing.T) {
	right := []api.Token{{Kind: api.TName, Text: "a"}, {Kind: api.TSign, Text: ","}, {Kind: api.TNumber, Text: "1"}}
	for _, wrong := range []api.Token{
		{}, {Kind: api.TEnd, At: 1, End: 1}, {Kind: api.TName}, {Kind: api.TNumber}, {Kind: api.TSign}, {Kind: 5, Text: "a"}, {Kind: -1, Text: "a"},
		{Kind: api.TName, Text: "a b"}, {Kind: api.TName, Text: "1"}, {Kind: api.TNumber, Text: "a"}, {Kind: api.TSign, Text: "(*"},
		{Kind: api.TSign, Text: "/"}, {Kind: api.TSign, Text: "^"}, {Kind: api.TString, Text: "a\nb"}, {Kind: api.TString, Text: `"`}, {Kind: api.TNumber, Text: "1.0"},
	} {
		for at := range len(right) + 1 {
			checkWrite(t, slices.Insert(slices.Clone(right), at, wrong), "", api.ErrToken)
		}
	}
}

// 5.5: texts as long as can be, and longer ones; a token that no text within the bound has is none.
func TestWriteLong(t *testing.T) {
	const size = api.MaxText
	nought := func(n int) api.Token { return api.Token{Kind: api.TNumber, Text: strings.Repeat("0", n)} }
	quoted := func(n int) api.Token { return api.Token{Kind: api.TString, Text: strings.Repeat("q", n)} }
	one, wrong := api.Token{Kind: api.TSign, Text: "*"}, api.Token{Kind: api.TName, Text: "%"}
	checkWrite(t, []api.Token{nought(size)}, strings.Repeat("0", size), api.OK)
	checkWrite(t, []api.Token{nought(size + 1)}, "", api.ErrToken)
	checkWrite(t, []api.Token{quoted(size - 2)}, `"`+strings.Repeat("q", size-2)+`"`, api.OK)
	checkWrite(t, []api.Token{quoted(size - 1)}, "", api.ErrToken)
	checkWrite(t, []api.Token{nought(size - 2), one}, strings.Repeat("0", size-2)+" *", api.OK)
	checkWrite(t, []api.Token{nought(size - 1), one}, "", api.ErrLong)
	checkWrite(t, []api.Token{one, nought(size - 1)}, "", api.ErrLong)
	checkWrite(t, []api.Token{nought(size), quoted(0)}, "", api.ErrLong)
	checkWrite(t, []api.Token{nought(size), nought(size), nought(size), one}, "", api.ErrLong)
	checkWrite(t, []api.Token{nought(size), nought(size), wrong}, "", api.ErrToken)
	checkWrite(t, []api.Token{nought(size), one, nought(size + 1)}, "", api.ErrToken)
	many := slices.Repeat([]api.Token{one}, size/2)
	checkWrite(t, many, strings.Repeat("* ", size/2-1)+"*", api.OK)
	checkWrite(t, append(many, one), "", api.ErrLong)
	checkWrite(t, append(many, one, one, wrong), "", api.ErrToken)
}

// 5.5: the list that is handed in stays as it is, behind its end too.
func TestWriteChangesNothing(t *testing.T) {
	l := []api.Token{{Kind: api.TName, Text: "a", Line: 3}, {Kind: api.TString, Text: "b", Value: 4}, {Kind: api.TName, Text: "%"}, {Kind: 8, Text: "c"}}
	was := slices.Clone(l)
	lexis.Write(l[:2])
	lexis.Write(l[:3])
	if !slices.Equal(l, was) {
		t.Errorf("Write changed its list: %v, was %v", l, was)
	}
}

// 5.6: what Write answers says the same tokens again, whatever blanks are put between them; each token's bytes alone are it.
func TestWriteAgain(t *testing.T) {
	gaps := []string{" ", "\n", "\t", "\r\n", "(**)", " (* a (* \" *) %*)", "\n\n  "}
	next := dice(56)
	seen := 0
	for _, s := range unruly(56, 20000) {
		l, err := lexis.All(s)
		if err != nil {
			continue
		}
		seen += len(l)
		written, wrong := lexis.Write(l)
		again, err := lexis.All(written)
		if wrong != api.OK || err != nil || !slices.Equal(said(again), said(l)) {
			t.Fatalf("%q is written as %q (%d), which says %v, %v", s, written, wrong, again, err)
		}
		var apart strings.Builder
		for _, k := range l {
			apart.WriteString(s[k.At:k.End])
			apart.WriteString(gaps[next()%uint64(len(gaps))])
			if alone, err := lexis.All(s[k.At:k.End]); err != nil || len(alone) != 1 || alone[0].Value != k.Value || said(alone)[0] != said([]api.Token{k})[0] {
				t.Fatalf("%v alone: %v, %v", k, alone, err)
			}
		}
		if again, err := lexis.All(apart.String()); err != nil || !slices.Equal(said(again), said(l)) {
			t.Fatalf("%q says %v, %v; want %v", apart.String(), again, err, l)
		}
	}
	if seen < 10000 {
		t.Errorf("only %d tokens were written", seen)
	}
}

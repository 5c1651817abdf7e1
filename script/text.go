package script

import (
	"iter"
	"strings"

	"weir/api"
	"weir/word"
)

// highest is the highest thread and location of a pick that has a text.
const highest = 9999

// Text is a script's text.
func Text(l []api.Pick) (string, api.Errno) {
	for _, k := range l {
		if !hasText(k) {
			return "", api.ErrPick
		}
	}
	var text strings.Builder
	for i, k := range l {
		if i > 0 {
			text.WriteByte(' ')
		}
		text.WriteString(pickText(k))
		if text.Len() > api.MaxText {
			return "", api.ErrLong
		}
	}
	return text.String(), api.OK
}

// Parse is the script of a text.
func Parse(s string) ([]api.Pick, error) {
	if len(s) > api.MaxText {
		return nil, api.ErrLong
	}
	var l []api.Pick
	for at, w := range words(s) {
		k, ok := pickOf(w)
		if !ok {
			return nil, &api.PosError{Line: lineAt(s, at), Col: colAt(s, at), Err: api.ErrPick}
		}
		l = append(l, k)
	}
	return l, nil
}

func hasText(k api.Pick) bool {
	if k.Thread < 0 || k.Thread > highest || k.Loc < 0 || k.Loc > highest {
		return false
	}
	return k.Kind == api.PFlush || k.Kind == api.PStep && k.Loc == 0
}

// pickText is the text of a pick that has one.
func pickText(k api.Pick) string {
	thread := word.Text(int64(k.Thread))
	if k.Kind == api.PStep {
		return thread + ":s"
	}
	if k.Loc == 0 {
		return thread + ":f"
	}
	return thread + ":f:" + word.Text(int64(k.Loc))
}

// pickOf is the pick of a text. It guesses a pick from the text's parts and holds the pick's own text against it, so that there is one rule of texts.
func pickOf(text string) (api.Pick, bool) {
	thread, rest, _ := strings.Cut(text, ":")
	kind, loc, _ := strings.Cut(rest, ":")
	k := api.Pick{Thread: number(thread), Kind: kindOf(kind), Loc: number(loc)}
	if !hasText(k) || pickText(k) != text {
		return api.Pick{}, false
	}
	return k, true
}

// number is the number of a text; 0, if it is none's.
func number(text string) int {
	v, _ := word.Parse(text)
	return int(v)
}

// kindOf is the kind of a letter; 0, if it is none's.
func kindOf(letter string) int {
	switch letter {
	case "s":
		return api.PStep
	case "f":
		return api.PFlush
	}
	return 0
}

// words goes through the words of a text, each with the place of its first byte.
func words(s string) iter.Seq2[int, string] {
	return func(yield func(int, string) bool) {
		for at := 0; at < len(s); {
			size := wordAt(s[at:])
			if size > 0 && !yield(at, s[at:at+size]) {
				return
			}
			at += size + 1
		}
	}
}

// wordAt is how many bytes stand ahead of the first blank.
func wordAt(s string) int {
	for i := range len(s) {
		if blank(s[i]) {
			return i
		}
	}
	return len(s)
}

func blank(b byte) bool { return b == ' ' || b == '\t' || b == '\n' || b == '\r' }

func lineAt(s string, at int) int { return 1 + strings.Count(s[:at], "\n") }

func colAt(s string, at int) int { return at - strings.LastIndexByte(s[:at], '\n') }

package lexis

import (
	"strings"

	"weir/api"
	"weir/word"
)

// signs are the signs of one byte, but for \ , which may begin a longer one.
const signs = "{}()[];,:|=$~&+*?"

// piece is what stands at the front of a text: a token and how long it is, or what is wrong and how far behind the front.
type piece struct {
	kind   int
	text   string
	value  int64
	length int
	wrong  api.Errno
}

// cut is the piece at the front of a text that begins with no blank and is not empty.
func cut(s string) piece {
	switch {
	case letter(s[0]):
		return name(s)
	case digit(s[0]), s[0] == '-' && len(s) > 1 && digit(s[1]):
		return number(s)
	case s[0] == '"':
		return quoted(s)
	}
	return sign(s)
}

func name(s string) piece {
	n := nameLength(s)
	if n > api.MaxName {
		return piece{wrong: api.ErrLong}
	}
	return piece{kind: api.TName, text: s[:n], length: n}
}

// number takes more than digits, so that what is glued to a number makes it none instead of becoming a token of its own.
func number(s string) piece {
	n := 1
	for n < len(s) && inner(s[n]) {
		n++
	}
	v, err := word.Parse(s[:n])
	if err != api.OK {
		return piece{wrong: err}
	}
	return piece{kind: api.TNumber, text: s[:n], value: v, length: n}
}

func quoted(s string) piece {
	n := 1
	for n < len(s) && s[n] != '"' && s[n] != '\n' {
		n++
	}
	if n == len(s) || s[n] == '\n' {
		return piece{length: n, wrong: api.ErrToken}
	}
	return piece{kind: api.TString, text: s[1:n], length: n + 1}
}

func sign(s string) piece {
	n := signLength(s)
	if n == 0 {
		return piece{wrong: api.ErrToken}
	}
	return piece{kind: api.TSign, text: s[:n], length: n}
}

// signLength is how many bytes the sign at the front of a text has; 0: none stands there.
func signLength(s string) int {
	switch {
	case strings.HasPrefix(s, "^-1"):
		return 3
	case strings.HasPrefix(s, `/\`), strings.HasPrefix(s, `\/`):
		return 2
	case s[0] == '\\', strings.IndexByte(signs, s[0]) >= 0:
		return 1
	}
	return 0
}

// nameLength is how many bytes the name at the front of a text would have, if names had no bound.
func nameLength(s string) int {
	if !letter(s[0]) {
		return 0
	}
	n := 1
	for n < len(s) && (inner(s[n]) || joins(s[n:])) {
		n++
	}
	return n
}

// joins tells whether a text begins with a + or - that may stand in a name.
func joins(s string) bool {
	return (s[0] == '+' || s[0] == '-') && len(s) > 1 && (letter(s[1]) || digit(s[1]))
}

// blanks is how many bytes of blanks stand at the front of a text, and whether the last comment there is closed; one that is not is no blank.
func blanks(s string) (int, bool) {
	n := 0
	for n < len(s) {
		if blank(s[n]) {
			n++
			continue
		}
		if !strings.HasPrefix(s[n:], "(*") {
			break
		}
		length, closed := comment(s[n:])
		if !closed {
			return n, false
		}
		n += length
	}
	return n, true
}

// comment is how many bytes the comment at the front of a text has, and whether it is closed. It counts what is open, however much that is.
func comment(s string) (int, bool) {
	open := 0
	for n := 0; n < len(s); {
		switch {
		case strings.HasPrefix(s[n:], "(*"):
			open++
			n += 2
		case strings.HasPrefix(s[n:], "*)"):
			open--
			n += 2
		default:
			n++
		}
		if open == 0 {
			return n, true
		}
	}
	return 0, false
}

func blank(c byte) bool { return c == ' ' || c == '\t' || c == '\n' || c == '\r' }

func letter(c byte) bool { return 'a' <= c && c <= 'z' || 'A' <= c && c <= 'Z' || c == '_' }

func digit(c byte) bool { return '0' <= c && c <= '9' }

// inner tells whether a byte may stand at every place of names and numbers but the first.
func inner(c byte) bool { return letter(c) || digit(c) || c == '.' }

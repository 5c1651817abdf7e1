package desk

import (
	"errors"
	"iter"
	"strconv"
	"strings"

	"weir/api"
)

// command is a line of a script that is not nothing, and the block behind it.
type command struct {
	words  []string // one at least
	marked bool     // it has a block
	block  string
}

// commands goes through the commands of a script.
func commands(script string) iter.Seq[command] {
	return func(yield func(command) bool) {
		for rest := script; rest != ""; {
			var text string
			text, rest, _ = strings.Cut(rest, "\n")
			words := strings.FieldsFunc(text, blank)
			if len(words) == 0 || strings.HasPrefix(words[0], "#") {
				continue
			}
			c := command{words: words}
			if mark := markOf(words); mark != "" {
				c.marked = true
				c.block, rest = cutBlock(rest, mark)
			}
			if !yield(c) {
				return
			}
		}
	}
}

func blank(r rune) bool { return r == ' ' || r == '\t' || r == '\r' }

// markOf is the mark of a command's block; empty, if it has none.
func markOf(words []string) string {
	if len(words) < 2 {
		return ""
	}
	mark, ok := strings.CutPrefix(words[len(words)-1], "<<")
	if !ok {
		return ""
	}
	return mark
}

// cutBlock cuts a text into the lines ahead of the first one that is a mark, and what stands behind that.
func cutBlock(text, mark string) (string, string) {
	for rest := text; rest != ""; {
		ahead := len(text) - len(rest)
		var line string
		line, rest, _ = strings.Cut(rest, "\n")
		if line == mark {
			return text[:ahead], rest
		}
	}
	return text, ""
}

// line is words as a line.
func line(words ...string) string { return strings.Join(words, " ") + "\n" }

// refusal is the line that tells an error.
func refusal(err error) string {
	var e api.Errno
	errors.As(err, &e)
	words := []string{"!", strconv.Itoa(int(e))}
	var at *api.PosError
	if errors.As(err, &at) {
		words = append(words, strconv.Itoa(at.Line), strconv.Itoa(at.Col))
	}
	return line(words...)
}

// fault is an error by its number.
func fault(e api.Errno) error {
	if e == api.OK {
		return nil
	}
	return e
}

// told is a text, unless there is an error.
func told(text string, e api.Errno) (string, error) {
	if e != api.OK {
		return "", e
	}
	return text, nil
}

// yesOrNo is an answer as a line, unless there is an error.
func yesOrNo(yes bool, e api.Errno) (string, error) {
	if yes {
		return told(line("yes"), e)
	}
	return told(line("no"), e)
}

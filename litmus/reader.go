package litmus

import (
	"strings"

	"weir/api"
	"weir/lexis"
)

// reader reads tokens: its methods go over what they are named for, and give up by a panic where something is wrong.
type reader struct {
	lexer *lexis.Lexer
	token api.Token // the next one: whatever has been read, one more must stand behind it, if only the end
}

// surrender is what the reader panics with.
type surrender struct {
	wrong error
}

// read reads a text from its front on, and answers what is wrong with it. Lexis refuses a text that is too long ahead of its first token.
func read(text string, all func(r *reader)) (err error) {
	defer func() {
		if thrown := recover(); thrown != nil {
			err = fault(thrown)
		}
	}()
	r := &reader{lexer: lexis.New(text)}
	r.advance()
	all(r)
	return nil
}

// fault is why the reader gave up; no other panic is caught.
func fault(thrown any) error {
	s, ok := thrown.(surrender)
	if !ok {
		panic(thrown)
	}
	return s.wrong
}

func (r *reader) advance() {
	t, err := r.lexer.Next()
	if err != nil {
		panic(surrender{err})
	}
	r.token = t
}

// misplaced is what is wrong with a token that cannot stand where it does.
func misplaced(t api.Token) surrender {
	return surrender{&api.PosError{Line: t.Line, Col: t.Col, Err: api.ErrSyntax}}
}

// must gives up at the next token, if it cannot stand there.
func (r *reader) must(stands bool) {
	if !stands {
		panic(misplaced(r.token))
	}
}

// sees tells whether the next token is a word of the grammar: no name has the text of a sign.
func (r *reader) sees(word string) bool {
	return (r.token.Kind == api.TName || r.token.Kind == api.TSign) && r.token.Text == word
}

// takes goes over a word, if it is the next token.
func (r *reader) takes(word string) bool {
	if !r.sees(word) {
		return false
	}
	r.advance()
	return true
}

func (r *reader) word(word string) { r.must(r.takes(word)) }

func (r *reader) name() string {
	t := r.token
	r.must(t.Kind == api.TName)
	r.advance()
	return t.Text
}

func (r *reader) number() int64 {
	t := r.token
	r.must(t.Kind == api.TNumber)
	r.advance()
	return t.Value
}

// location is a name in brackets.
func (r *reader) location() string {
	r.word("[")
	name := r.name()
	r.word("]")
	return name
}

func (r *reader) ref() api.Ref {
	if r.sees("[") {
		return api.Ref{Thread: -1, Name: r.location()}
	}
	if !isThread(r.token) {
		return api.Ref{Thread: -1, Name: r.name()}
	}
	n := int(r.number())
	r.word(":")
	return api.Ref{Thread: n, Name: r.name()}
}

func isThread(t api.Token) bool {
	return t.Kind == api.TNumber && len(t.Text) <= 4 && strings.Trim(t.Text, "0123456789") == ""
}

func (r *reader) instruction() api.Instr {
	switch {
	case r.takes("MOV"):
		return r.move()
	case r.takes("MFENCE"):
		return api.Instr{Op: api.OFence}
	case r.takes("XCHG"):
		loc, reg := r.operands()
		return api.Instr{Op: api.OXchg, Loc: loc, Reg: reg}
	case r.takes("LOCK"):
		return r.locked()
	}
	panic(misplaced(r.token))
}

func (r *reader) move() api.Instr {
	if r.sees("[") {
		return r.store()
	}
	reg := r.name()
	r.word(",")
	switch {
	case r.takes("$"):
		return api.Instr{Op: api.OMovImm, Reg: reg, Imm: r.number()}
	case r.sees("["):
		return api.Instr{Op: api.OLoad, Reg: reg, Loc: r.location()}
	}
	return api.Instr{Op: api.OMovReg, Reg: reg, Src: r.name()}
}

func (r *reader) store() api.Instr {
	loc := r.location()
	r.word(",")
	if r.takes("$") {
		return api.Instr{Op: api.OStoreImm, Loc: loc, Imm: r.number()}
	}
	return api.Instr{Op: api.OStoreReg, Loc: loc, Src: r.name()}
}

func (r *reader) locked() api.Instr {
	if r.takes("CMPXCHG") {
		loc, src := r.operands()
		return api.Instr{Op: api.OCmpxchg, Loc: loc, Src: src}
	}
	r.word("XADD")
	loc, reg := r.operands()
	return api.Instr{Op: api.OXadd, Loc: loc, Reg: reg}
}

// operands is a location and a register.
func (r *reader) operands() (string, string) {
	loc := r.location()
	r.word(",")
	return loc, r.name()
}

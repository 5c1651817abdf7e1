package cat

import (
	"weir/api"
	"weir/lexis"
)

// How tight nodes bind, from the loosest on: first the five operators with two parts, each by itself.
const (
	bindsUnion = iota + 1
	bindsSeq
	bindsMinus
	bindsMeet
	bindsCross
	bindsNot
	bindsBehind
	bindsPrime
)

// operator is what there is to say of a node's Op.
type operator struct {
	sign  string
	parts int // how many: with one there is A, with two B as well
	binds int
	takes int // the sort that its parts must have; 0: either one, if it is the same
	makes int // the sort that it has; 0: that of its parts
}

// operators is a row for each Op; that of 0 is none's.
var operators = [...]operator{
	api.XName:  {binds: bindsPrime},
	api.XZero:  {sign: "0", binds: bindsPrime, makes: api.SRel},
	api.XUnion: {sign: "|", parts: 2, binds: bindsUnion},
	api.XMeet:  {sign: "&", parts: 2, binds: bindsMeet},
	api.XMinus: {sign: `\`, parts: 2, binds: bindsMinus},
	api.XSeq:   {sign: ";", parts: 2, binds: bindsSeq, takes: api.SRel, makes: api.SRel},
	api.XCross: {sign: "*", parts: 2, binds: bindsCross, takes: api.SSet, makes: api.SRel},
	api.XNot:   {sign: "~", parts: 1, binds: bindsNot},
	api.XInv:   {sign: "^-1", parts: 1, binds: bindsBehind, takes: api.SRel, makes: api.SRel},
	api.XPlus:  {sign: "+", parts: 1, binds: bindsBehind, takes: api.SRel, makes: api.SRel},
	api.XStar:  {sign: "*", parts: 1, binds: bindsBehind, takes: api.SRel, makes: api.SRel},
	api.XOpt:   {sign: "?", parts: 1, binds: bindsBehind, takes: api.SRel, makes: api.SRel},
	api.XOn:    {sign: "[", parts: 1, binds: bindsPrime, takes: api.SSet, makes: api.SRel},
}

// kinds is the words with which rules begin, by their kinds; that of 0 is none's.
var kinds = [...]string{api.RLet: "let", api.RAcyclic: "acyclic", api.RIrreflexive: "irreflexive", api.REmpty: "empty"}

// namer is the word ahead of a check's name.
const namer = "as"

// kindOf is the kind of the rules that begin with a word; 0: there are none.
func kindOf(word string) int {
	for k := api.RLet; k < len(kinds); k++ {
		if kinds[k] == word {
			return k
		}
	}
	return 0
}

// reserved tells whether a text is a word of the language.
func reserved(s string) bool { return s == namer || kindOf(s) != 0 }

// free tells whether a text is a name that a model may give.
func free(s string) bool { return lexis.Name(s) && !reserved(s) }

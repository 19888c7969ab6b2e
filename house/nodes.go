package house

import (
	"sparrow/api"
	"sparrow/tile"
)

// The words of nodes, numbered as the Ops of api are.
const (
	_ = iota
	wordTrue
	wordNot
	wordAnd
	wordOr
	wordLeast
	wordForm
	wordFlag
	wordSelf
	wordClosed
	wordLast
	wordNumber
	wordSum
	wordTimes
	wordIf
	wordUp
	wordGroups
	wordTiles
	wordBonus
	wordWind
	wordTwins
	wordRow
	wordColours
	wordSuits
	wordWaits
)

var nodeWords = [...]string{
	wordTrue: "true", wordNot: "not", wordAnd: "and", wordOr: "or", wordLeast: "least", wordForm: "form", wordFlag: "flag", wordSelf: "self",
	wordClosed: "closed", wordLast: "last", wordNumber: "number", wordSum: "sum", wordTimes: "times", wordIf: "if", wordUp: "up", wordGroups: "groups",
	wordTiles: "tiles", wordBonus: "bonus", wordWind: "wind", wordTwins: "twins", wordRow: "row", wordColours: "colours", wordSuits: "suits", wordWaits: "waits",
}

// nodeParts are the parts of nodes: t is a truth, n a number. (The last word has none, but makes the table as long as that of words.)
var nodeParts = [...]string{
	wordNot: "t", wordAnd: "tt", wordOr: "tt", wordLeast: "n", wordSum: "nn", wordTimes: "nn", wordIf: "tnn", wordUp: "n", wordWaits: "",
}

// What is wanted of a part, besides a truth.
const (
	aNumber  = 'n'
	anything = '?'
)

// isNumber reports whether an Op is a number: the truths stand before them.
func isNumber(op int) bool { return op > api.OpLast }

// span is which numbers a field may have. A node that does not use the field has the zero span; no other span ends with 0.
type span struct{ least, most int }

func (x span) used() bool { return x.most > 0 }

// use is which fields a node uses.
type use struct {
	what, n, m, open span
	all, kinds       bool
}

// useOf is the use of an Op.
func useOf(op int) use {
	what := span{1, 31}
	switch op {
	case api.OpLeast, api.OpNumber:
		return use{n: span{0, api.MaxNumber}}
	case api.OpForm:
		return use{n: span{api.FormMelds, api.FormList}}
	case api.OpFlag:
		return use{n: span{api.FlagRiichi, api.FlagFirst}}
	case api.OpLast:
		return use{what: what, n: span{0, wonAtEnd}}
	case api.OpUp:
		return use{n: span{1, 1000}}
	case api.OpGroups:
		return use{what: what, open: span{0, onlyClosed}, all: true, kinds: true}
	case api.OpTiles:
		return use{kinds: true}
	case api.OpWind:
		return use{what: what, n: span{ofSeat, ofRound}}
	case api.OpTwins:
		return use{n: span{allTwins, closedTwins}}
	case api.OpRow:
		return use{what: what, n: span{2, 4}, m: span{1, 3}}
	case api.OpColours:
		return use{what: what, n: span{2, 3}, m: span{0, 2}}
	}
	return use{}
}

// CheckCond returns whether a condition is a number, or its first error.
func CheckCond(s api.Set, l []api.Node) (number bool, e api.Errno) {
	if e := tile.Check(s); e != api.OK {
		return false, e
	}
	return checkCond(tile.Kinds(s), l)
}

// checkCond is CheckCond for a valid set with so many plain kinds.
func checkCond(kinds int, l []api.Node) (number bool, e api.Errno) {
	if len(l) > api.MaxNodes {
		return false, api.ErrLong
	}
	for _, n := range l {
		if e := checkNode(kinds, n); e != api.OK {
			return false, e
		}
	}
	if len(l) == 0 {
		return false, api.OK
	}
	if e := checkParts(l); e != api.OK {
		return false, e
	}
	return isNumber(l[0].Op), api.OK
}

// checkNode returns the first error of a node by itself.
func checkNode(kinds int, n api.Node) api.Errno {
	if !between(n.Op, api.OpTrue, api.OpWaits) {
		return api.ErrKind
	}
	u := useOf(n.Op)
	numbers := [...]struct {
		is  int
		may span
	}{{n.What, u.what}, {n.N, u.n}, {n.M, u.m}, {n.Open, u.open}}
	for _, x := range numbers {
		if x.is != 0 && !x.may.used() {
			return api.ErrForm
		}
	}
	if n.All && !u.all || len(n.Kinds) > 0 && !u.kinds {
		return api.ErrForm
	}
	for _, x := range numbers {
		if !between(x.is, x.may.least, x.may.most) {
			return api.ErrRange
		}
	}
	return ascending(n.Kinds, 0, kinds-1)
}

// checkParts returns the first error of how the nodes of a list stand together. Wanted are the parts that are still to come, the next one first.
func checkParts(l []api.Node) api.Errno {
	wanted, fit := string(anything), true
	for _, n := range l {
		if wanted == "" {
			return api.ErrLong
		}
		fit = fit && (wanted[0] == anything || isNumber(n.Op) == (wanted[0] == aNumber))
		wanted = nodeParts[n.Op] + wanted[1:]
	}
	if wanted != "" {
		return api.ErrShort
	}
	return unless(fit, api.ErrType)
}

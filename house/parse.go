package house

import (
	"strconv"
	"strings"

	"sparrow/api"
)

// mostSaid is the greatest number with nine digits, the greatest one that a text may have.
const mostSaid = 999999999

// Parse reads the text of a house; line is the number of the first row that is not as said.
func Parse(text string) (h api.House, line int, e api.Errno) {
	if len(text) > api.MaxText {
		return api.House{}, 0, api.ErrLong
	}
	p := reader{rows: rowsOf(text)}
	p.rules(&h)
	if p.bad || p.at < len(p.rows) {
		return api.House{}, p.at + 1, api.ErrForm
	}
	if e := CheckHouse(h); e != api.OK {
		return api.House{}, 0, e
	}
	return h, 0, api.OK
}

// rowsOf returns the rows of a text. In place of a last row without its line feed stands an empty one: no row may be empty.
func rowsOf(text string) []string {
	rows := strings.Split(text, "\n")
	last := len(rows) - 1
	if rows[last] == "" {
		return rows[:last]
	}
	rows[last] = ""
	return rows
}

// reader reads the rows of a text, one behind the other, until one is bad: the one with the number at, from 0 on.
type reader struct {
	rows []string
	at   int
	bad  bool
}

func (p *reader) rules(h *api.House) {
	p.row(setRow{&h.Set})
	p.row(suitsRow{&h.Set})
	p.row(redsRow{&h.Set})
	for p.sees(rowForm) {
		var f api.Form
		p.row(formRow{&f})
		h.Forms = append(h.Forms, f)
	}
	for p.sees(rowPattern) {
		h.Patterns = append(h.Patterns, p.pattern())
	}
	p.rowIf(minorRow{h})
	p.row(leastRow{h})
	p.row(scaleRow{&h.Scale})
	for p.sees(rowLimit) {
		var l api.Limit
		p.row(limitRow{&l})
		h.Scale.Limits = append(h.Scale.Limits, l)
	}
	p.row(payRow{&h.Pay})
	p.rowIf(placesRow{&h.Pay})
	for p.sees(rowFeed) {
		var f api.Feed
		p.row(feedRow{&f})
		h.Pay.Feeds = append(h.Pay.Feeds, f)
	}
	p.row(playRow{&h.Play})
}

// pattern reads the rows of a pattern.
func (p *reader) pattern() api.Pattern {
	var x api.Pattern
	p.row(patternRow{&x})
	p.rowIf(excludesRow{&x})
	p.rowIf(impliesRow{&x})
	p.rowIf(whenRow{&x})
	return x
}

// sees reports whether the next row is of a kind.
func (p *reader) sees(kind int) bool {
	if p.bad || p.at == len(p.rows) {
		return false
	}
	first, _, _ := strings.Cut(p.rows[p.at], " ")
	return first == rowWords[kind]
}

// row reads a row that has to be there.
func (p *reader) row(r row) {
	kind, fields := r.content()
	if !p.sees(kind) {
		p.bad = true
		return
	}
	w := words{left: strings.Split(p.rows[p.at], " ")[1:]}
	w.fill(fields...)
	p.bad = w.bad || len(w.left) > 0
	if !p.bad {
		p.at++
	}
}

// rowIf reads a row that is there only if something is said in it.
func (p *reader) rowIf(r row) {
	kind, _ := r.content()
	if !p.sees(kind) {
		return
	}
	if p.rows[p.at] == rowWords[kind] {
		p.bad = true
		return
	}
	p.row(r)
}

// words are the words of a row that are not read yet; bad says that one was missing, or not as said.
type words struct {
	left []string
	bad  bool
}

// next returns the next word. No word is empty: then there were two blanks between others, or one at the end.
func (w *words) next() string {
	if len(w.left) == 0 || w.left[0] == "" {
		w.bad = true
		return ""
	}
	word := w.left[0]
	w.left = w.left[1:]
	return word
}

// more reports whether there are words that can be read.
func (w *words) more() bool { return !w.bad && len(w.left) > 0 }

// fill reads fields as wordsOf writes them.
func (w *words) fill(fields ...any) {
	for _, f := range fields {
		switch f := f.(type) {
		case *int:
			*f = w.number(w.next())
		case *bool:
			*f = w.truth()
		case *string:
			*f = w.next()
		case *[]int:
			for w.more() {
				*f = append(*f, w.number(w.next()))
			}
		case *[]api.Node:
			for w.more() {
				*f = append(*f, w.node())
			}
		case kindsField:
			*f.kinds = w.kinds()
		case formField:
			*f.what = w.form()
		case againField:
			*f.again = w.again()
		}
	}
}

// number reads a number. Only one that was written without anything needless is written in the same way again.
func (w *words) number(word string) int {
	n, err := strconv.Atoi(word)
	if err != nil || strconv.Itoa(n) != word || !between(n, -mostSaid, mostSaid) {
		w.bad = true
	}
	return n
}

func (w *words) truth() bool {
	word := w.next()
	w.bad = w.bad || word != yes && word != no
	return word == yes
}

func (w *words) kinds() []int {
	word := w.next()
	if word == noKinds {
		return nil
	}
	var kinds []int
	for _, k := range strings.Split(word, ",") {
		kinds = append(kinds, w.number(k))
	}
	return kinds
}

// form reads the word of a form. (Where the table has no word it is empty; then the word is missing, and that is bad already.)
func (w *words) form() int {
	word := w.next()
	for what, name := range formWords {
		if name == word {
			return what
		}
	}
	w.bad = true
	return 0
}

func (w *words) again() bool {
	if !w.more() || w.left[0] != again {
		return false
	}
	w.left = w.left[1:]
	return true
}

// node reads a node, its word and its fields. (Of the table the same holds.)
func (w *words) node() api.Node {
	word := w.next()
	for op, name := range nodeWords {
		if name == word {
			n := api.Node{Op: op}
			w.fill(nodeFields(&n)...)
			return n
		}
	}
	w.bad = true
	return api.Node{}
}

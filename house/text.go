package house

import (
	"strconv"
	"strings"

	"sparrow/api"
)

// The words of fields that are not numbers or names.
const (
	yes     = "1"
	no      = "0"
	again   = "again"
	noKinds = "-"
)

// Text returns the text of a house.
func Text(h api.House) (string, api.Errno) {
	if e := CheckHouse(h); e != api.OK {
		return "", e
	}
	var t writer
	t.rules(h)
	return t.text.String(), api.OK
}

// writer writes the rows of a text, one behind the other.
type writer struct{ text strings.Builder }

func (t *writer) rules(h api.House) {
	t.row(setRow{&h.Set})
	t.row(suitsRow{&h.Set})
	t.row(redsRow{&h.Set})
	for _, f := range h.Forms {
		t.row(formRow{&f})
	}
	for _, p := range h.Patterns {
		t.row(patternRow{&p})
		t.rowIf(len(p.Excludes) > 0, excludesRow{&p})
		t.rowIf(len(p.Implies) > 0, impliesRow{&p})
		t.rowIf(len(p.Cond) > 0, whenRow{&p})
	}
	t.rowIf(len(h.Minor) > 0, minorRow{&h})
	t.row(leastRow{&h})
	t.row(scaleRow{&h.Scale})
	for _, l := range h.Scale.Limits {
		t.row(limitRow{&l})
	}
	t.row(payRow{&h.Pay})
	t.rowIf(len(h.Pay.Places) > 0, placesRow{&h.Pay})
	for _, f := range h.Pay.Feeds {
		t.row(feedRow{&f})
	}
	t.row(playRow{&h.Play})
}

func (t *writer) rowIf(there bool, r row) {
	if there {
		t.row(r)
	}
}

func (t *writer) row(r row) {
	kind, fields := r.content()
	words := append([]string{rowWords[kind]}, wordsOf(fields...)...)
	t.text.WriteString(strings.Join(words, " ") + "\n")
}

// wordsOf returns the words of fields.
func wordsOf(fields ...any) []string {
	var words []string
	for _, f := range fields {
		switch f := f.(type) {
		case *int:
			words = append(words, strconv.Itoa(*f))
		case *bool:
			words = append(words, truthWord(*f))
		case *string:
			words = append(words, *f)
		case *[]int:
			words = append(words, numberWords(*f)...)
		case *[]api.Node:
			for _, n := range *f {
				words = append(words, nodeWords[n.Op])
				words = append(words, wordsOf(nodeFields(&n)...)...)
			}
		case kindsField:
			words = append(words, kindsWord(*f.kinds))
		case formField:
			words = append(words, formWords[*f.what])
		case againField:
			if *f.again {
				words = append(words, again)
			}
		}
	}
	return words
}

func truthWord(holds bool) string {
	if holds {
		return yes
	}
	return no
}

func numberWords(l []int) []string {
	var words []string
	for _, n := range l {
		words = append(words, strconv.Itoa(n))
	}
	return words
}

func kindsWord(kinds []int) string {
	if len(kinds) == 0 {
		return noKinds
	}
	return strings.Join(numberWords(kinds), ",")
}

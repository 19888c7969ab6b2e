package score

import (
	"slices"
	"strconv"
	"strings"

	"sparrow/api"
	"sparrow/shape"
	"sparrow/tile"
)

// Explain returns the lines that explain the best score of a winning hand.
func Explain(h api.House, x api.Hand, w api.Win) ([]string, api.Errno) {
	s, e := Best(h, x, w)
	if e != api.OK {
		return nil, e
	}
	lines := []string{groupsLine(h.Set, s.Reading)}
	for _, hold := range s.Holds {
		lines = append(lines, holdLine(h.Patterns, hold, s.Counted, isOpen(x)))
	}
	return append(lines, line("=", s.Value, w.Bonus, s.Minor, s.Points)), api.OK
}

// line writes words and numbers with one blank between each two.
func line(parts ...any) string {
	words := make([]string, len(parts))
	for i, part := range parts {
		switch x := part.(type) {
		case string:
			words[i] = x
		case int:
			words[i] = strconv.Itoa(x)
		}
	}
	return strings.Join(words, " ")
}

func groupsLine(s api.Set, r api.Reading) string {
	texts := make([]any, len(r.Groups))
	for i, g := range r.Groups {
		texts[i] = groupText(s, g, i == r.Last)
	}
	return line(texts...)
}

func groupText(s api.Set, g api.Group, last bool) string {
	var faces []api.Face
	for _, kind := range shape.Tiles(s, g) {
		faces = append(faces, api.Face{Kind: kind})
	}
	text, _ := tile.Text(s, faces)
	if g.Open {
		text = "[" + text + "]"
	}
	if last {
		text += "*"
	}
	return text
}

// holdLine says what a hold is counted for, or why it is not.
func holdLine(l []api.Pattern, x api.Hold, counted []int, open bool) string {
	p := l[x.Pattern]
	value := valueOf(p, open)
	switch {
	case value == 0:
		return line("-", p.Name, 0)
	case !slices.Contains(counted, x.Pattern):
		return line("-", p.Name, l[firstClash(l, x.Pattern, counted)].Name)
	case x.Times > 1:
		return line("+", p.Name, value, "x", x.Times)
	}
	return line("+", p.Name, value)
}

// firstClash returns the first counted pattern that clashes with one that counts, but is not counted; there is one, as the choice would be better with the pattern otherwise.
func firstClash(l []api.Pattern, pattern int, counted []int) int {
	clashing := conflictsOf(l)[pattern]
	return counted[slices.IndexFunc(counted, clashing.has)]
}

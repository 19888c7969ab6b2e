package score_test

import (
	"slices"
	"strconv"
	"strings"
	"testing"

	"sparrow/api"
	"sparrow/score"
	"sparrow/shape"
)

// explained checks the lines of a win.
func explained(t *testing.T, h api.House, x api.Hand, w api.Win, want ...string) {
	t.Helper()
	if l, e := score.Explain(h, x, w); e != api.OK || !slices.Equal(l, want) {
		t.Errorf("%q %v instead of %q", l, e, want)
	}
}

// TestExplain (P5.2): the chapter's example, an open hand, and a bonus.
func TestExplain(t *testing.T) {
	explained(t, three(), hand(1, 1, 3, 0), api.Win{Kind: 2, Self: true}, "123m* 33m", "- a b", "+ b 3", "+ c 2", "= 5 0 1 2000")
	x := api.Hand{Bag: []int{0, 0, 2, 0}, Melds: []api.Group{open(api.Chow, 0)}}
	explained(t, three(), x, api.Win{Kind: 2, Bonus: 1}, "[123m] 33m*", "- a b", "+ b 3", "- c 0", "= 3 1 1 128")
	explained(t, listed(small(), nil), hand(2, 3, 0, 0), api.Win{Kind: 1, Bonus: 1000}, "222m* 11m", "= 0 1000 1 1000")
}

// TestTextsOfGroups (P5.2): groups of all sorts of tiles, open ones and closed kongs; what is red is not written so.
func TestTextsOfGroups(t *testing.T) {
	h := listed(big(), nil)
	x := api.Hand{Bag: bag(big(), 18, 19, 20, 4, 4), Melds: []api.Group{group(api.Kong, 27), open(api.Kong, 33), open(api.Chow, 12)}}
	explained(t, h, x, api.Win{Kind: 4}, "1111w [3333d] [456p] 123s 55m*", "= 0 0 1 0")
	explained(t, h, x, api.Win{Kind: 18}, "1111w [3333d] [456p] 123s* 55m", "= 0 0 1 0")
	h.Forms = []api.Form{{What: api.FormPairs}, {What: api.FormKnitted}, {What: api.FormEach, Kinds: []int{0, 8, 9, 17, 18, 26, 27, 28, 29, 30, 31, 32, 33}}}
	explained(t, h, hand(bag(big(), 0, 0, 8, 8, 9, 9, 13, 13, 26, 26, 30, 30, 31, 31)...), api.Win{Kind: 13}, "11m 99m 11p 55p* 99s 44w 11d", "= 0 0 1 0")
	explained(t, h, hand(bag(big(), 0, 3, 6, 10, 13, 16, 20, 23, 26, 27, 28, 31, 32, 33)...), api.Win{Kind: 27}, "1m 4m 7m 2p 5p 8p 3s 6s 9s 1w* 2w 1d 2d 3d", "= 0 0 1 0")
	explained(t, h, hand(bag(big(), 0, 8, 9, 17, 18, 26, 27, 28, 29, 30, 31, 32, 33, 33)...), api.Win{Kind: 33}, "33d* 1m 9m 1p 9p 1s 9s 1w 2w 3w 4w 1d 2d", "= 0 0 1 0")
}

// TestLinesOfHolds (P5.2): how often a pattern is counted, that it does not count, and the first counted one with which it clashes.
func TestLinesOfHolds(t *testing.T) {
	number := func(n int) api.Node { return api.Node{Op: api.OpNumber, N: n} }
	l := []api.Pattern{
		{Name: "thrice", Closed: 2, Open: 7, Cond: []api.Node{number(3)}},
		{Name: "low", Closed: 1, Open: 1, Excludes: []int{0, 3}},
		{Name: "nothing", Open: 4, Excludes: []int{0}},
		{Name: "twice", Closed: 5, Cond: []api.Node{number(2)}, Implies: []int{5}},
		{Name: "never", Closed: 9, Open: 9, Cond: []api.Node{number(0)}, Excludes: []int{0}},
		{Name: "last", Closed: 3, Open: 6, Cond: []api.Node{number(1000)}, Excludes: []int{7}},
		{Name: "often", Closed: 1000, Open: 1000, Cond: []api.Node{number(5000)}},
		{Name: "other", Closed: 1, Open: 1},
	}
	h := listed(small(), l)
	explained(t, h, hand(2, 0, 0, 3), api.Win{Kind: 0}, "111d 11m*", "+ thrice 2 x 3", "- low thrice", "- nothing 0", "- twice last", "+ last 3 x 1000", "+ often 1000 x 1000", "- other last", "= 1003006 0 1 1000000")
	opened := api.Hand{Bag: []int{2, 0, 0, 0}, Melds: []api.Group{open(api.Pung, 3)}}
	explained(t, h, opened, api.Win{Kind: 0}, "[111d] 11m*", "+ thrice 7 x 3", "- low thrice", "- nothing thrice", "- twice 0", "+ last 6 x 1000", "+ often 1000 x 1000", "- other last", "= 1006021 0 1 1000000")
}

// TestExplanations (P5.13): there is a line for each hold, one for the reading and one for the sum; counted lines add up to the value, and others say with what they clash.
func TestExplanations(t *testing.T) {
	clashes, nothing, often := 0, 0, 0
	eachWin(t, 16, 30, func(_ *dice, p place) {
		s, e := score.Best(p.h, p.x, p.w)
		lines, again := score.Explain(p.h, p.x, p.w)
		if e != again {
			t.Error(e, again)
		}
		if e != api.OK {
			return
		}
		if len(lines) != len(s.Holds)+2 || lines[len(lines)-1] != "= "+strconv.Itoa(s.Value)+" "+strconv.Itoa(p.w.Bonus)+" "+strconv.Itoa(s.Minor)+" "+strconv.Itoa(s.Points) {
			t.Fatal(lines)
		}
		if groups := strings.Split(lines[0], " "); len(groups) != len(s.Reading.Groups) || strings.Count(lines[0], "*") != 1 || !strings.HasSuffix(groups[s.Reading.Last], "*") {
			t.Error(lines[0])
		}
		sum := 0
		for i, x := range s.Holds {
			words := strings.Split(lines[i+1], " ")
			name := p.h.Patterns[x.Pattern].Name
			switch {
			case words[0] == "+" && slices.Contains(s.Counted, x.Pattern) && words[1] == name && len(words) == 3 && x.Times == 1:
				sum += number(words[2])
			case words[0] == "+" && slices.Contains(s.Counted, x.Pattern) && words[1] == name && len(words) == 5 && words[3] == "x" && number(words[4]) == x.Times && x.Times > 1:
				sum += number(words[2]) * x.Times
				often++
			case words[0] == "-" && words[1] == name && len(words) == 3 && words[2] == "0":
				nothing++
			case words[0] == "-" && words[1] == name && len(words) == 3 && words[2] == first(p.h.Patterns, x.Pattern, s.Counted):
				clashes++
			default:
				t.Error(lines[i+1])
			}
		}
		if sum != s.Value {
			t.Error(sum, s.Value)
		}
	})
	if clashes < 50 || nothing < 50 || often < 50 {
		t.Error("only", clashes, nothing, often)
	}
}

func number(text string) int {
	n, _ := strconv.Atoi(text)
	return n
}

// first is the name of the first counted pattern with which one clashes.
func first(l []api.Pattern, pattern int, counted []int) string {
	for _, c := range counted {
		if clash(l, pattern, c) {
			return l[c].Name
		}
	}
	return "none"
}

// TestWorths (P5.3): the chapter's example; waits that may not win; a hand that waits for nothing.
func TestWorths(t *testing.T) {
	high := three()
	high.Least = 6
	self := api.Win{Self: true, Kind: 77}
	for i, c := range []struct {
		h    api.House
		x    api.Hand
		w    api.Win
		want []api.Worth
	}{
		{three(), hand(1, 1, 2, 0), self, []api.Worth{{Kind: 2, Points: 2000}}},
		{three(), hand(2, 2, 0, 0), self, []api.Worth{{Kind: 0, Points: 2000}, {Kind: 1, Points: 2000}}},
		{three(), hand(2, 2, 0, 0), api.Win{Bonus: 1}, []api.Worth{{Kind: 0, Points: 3000}, {Kind: 1, Points: 3000}}},
		{high, hand(2, 2, 0, 0), api.Win{Bonus: 1}, []api.Worth{{Kind: 0, Points: -1}, {Kind: 1, Points: -1}}},
		{three(), hand(1, 2, 0, 1), self, nil},
		{three(), hand(1, 2, 0, 1), api.Win{Seat: -1}, nil},
		{three(), api.Hand{Bag: []int{0, 1, 0, 0}, Melds: []api.Group{open(api.Pung, 3)}}, self, []api.Worth{{Kind: 1, Points: 64}}},
		{listed(small(), named(when(3, last(inPair)), when(2, api.Node{Op: api.OpTiles, Kinds: []int{1}}))), hand(3, 1, 0, 0), api.Win{}, []api.Worth{{Kind: 1, Points: 7}, {Kind: 2, Points: 2}}},
	} {
		if l, e := score.Worths(c.h, c.x, c.w); !slices.Equal(l, c.want) || e != api.OK {
			t.Error(i, l, e)
		}
	}
	// Only some of the waits are enough.
	h := listed(small(), named(when(3, api.Node{Op: api.OpGroups, What: inPung, All: true, Kinds: []int{3}})))
	h.Least = 1
	if l, e := score.Worths(h, hand(2, 0, 0, 2), api.Win{}); e != api.OK || !slices.Equal(l, []api.Worth{{Kind: 0, Points: -1}, {Kind: 3, Points: 3}}) {
		t.Error(l, e)
	}
}

// TestErrorsOfWorths (P5.3, R1, R3): of two errors the first one is returned, and nothing with it.
func TestErrorsOfWorths(t *testing.T) {
	steps := []winStep{}
	for _, s := range winSteps() {
		switch s.name {
		case "rest":
			s.name, s.spoil = "full", func(_ *api.House, x *api.Hand, _ *api.Win) { x.Bag[2]++ }
		case "kind", "missing", "reading", "least":
			continue
		}
		steps = append(steps, s)
	}
	for i, a := range steps {
		for _, b := range steps[i:] {
			h, x, w := three(), hand(1, 1, 2, 0), api.Win{Kind: -5}
			if a.name != b.name {
				b.spoil(&h, &x, &w)
			}
			a.spoil(&h, &x, &w)
			if l, e := score.Worths(h, x, w); e != a.want || len(l) != 0 {
				t.Error(a.name, b.name, l, e)
			}
		}
	}
}

// TestWorthsAreBest (P5.14): what a wait is worth is the best score with this tile; the kinds are those for which the hand waits.
func TestWorthsAreBest(t *testing.T) {
	barred, waits := 0, 0
	eachWin(t, 17, 20, func(_ *dice, p place) {
		x := shape.Copy(p.x)
		x.Bag[p.w.Kind]--
		l, e := score.Worths(p.h, x, p.w)
		if e != api.OK {
			t.Fatal(e)
		}
		var kinds []int
		for _, worth := range l {
			kinds = append(kinds, worth.Kind)
			full, w := shape.Copy(x), p.w
			full.Bag[worth.Kind]++
			w.Kind = worth.Kind
			s, e := score.Best(p.h, full, w)
			if e == api.OK && worth.Points != s.Points || e == api.ErrState && worth.Points != -1 || e != api.OK && e != api.ErrState {
				t.Error(worth, s, e)
			}
			barred += min(1, max(0, -worth.Points))
			waits++
		}
		if !slices.Equal(kinds, shape.Waits(p.h.Set, p.h.Forms, x)) || !slices.Contains(kinds, p.w.Kind) {
			t.Error(kinds)
		}
	})
	if barred < 50 || waits < 500 {
		t.Error("only", waits, "waits,", barred, "of them barred")
	}
}

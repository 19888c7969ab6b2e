package score_test

import (
	"reflect"
	"slices"
	"testing"

	"sparrow/api"
	"sparrow/house"
	"sparrow/score"
	"sparrow/shape"
)

func hand(bag ...int) api.Hand { return api.Hand{Bag: bag} }

// TestExampleHand (P5.2): the scores of the chapter's hand, in full.
func TestExampleHand(t *testing.T) {
	x, w := hand(1, 1, 3, 0), api.Win{Kind: 2, Self: true}
	groups := []api.Group{group(api.Chow, 0), group(api.Pair, 2)}
	want := []api.Score{
		{Reading: api.Reading{Groups: groups}, Holds: once(0, 1, 2), Counted: []int{1, 2}, Value: 5, Total: 5, Minor: 1, Points: 2000},
		{Reading: api.Reading{Groups: groups, Last: 1}, Holds: once(0, 1, 2), Counted: []int{1, 2}, Value: 5, Total: 5, Minor: 1, Points: 2000},
	}
	l, e := score.All(three(), x, w)
	if e != api.OK || !reflect.DeepEqual(l, want) {
		t.Error(l, e)
	}
	s, e := score.Best(three(), x, w)
	if e != api.OK || !reflect.DeepEqual(s, want[0]) {
		t.Error(s, e)
	}
	w.Bonus = 1
	want[0].Total, want[0].Points = 6, 3000
	if s, e := score.Best(three(), x, w); e != api.OK || !reflect.DeepEqual(s, want[0]) {
		t.Error(s, e)
	}
}

// TestOpenHands (P5.1, P5.2): a called meld opens a hand; a kong of tiles of its own does not.
func TestOpenHands(t *testing.T) {
	for i, c := range []struct {
		meld    api.Group
		counted []int
		value   int
	}{
		{open(api.Pung, 3), []int{1}, 3}, {open(api.Chow, 0), []int{1}, 3}, {open(api.Kong, 3), []int{1}, 3}, {group(api.Kong, 3), []int{1, 2}, 5},
	} {
		s, e := score.Best(three(), api.Hand{Bag: []int{0, 2, 0, 0}, Melds: []api.Group{c.meld}}, api.Win{Kind: 1})
		if e != api.OK || !slices.Equal(s.Counted, c.counted) || s.Value != c.value || len(s.Holds) != 3 {
			t.Error(i, s, e)
		}
	}
	// One open meld of several is enough.
	h := listed(big(), named(api.Pattern{Closed: 5, Open: 2}))
	x := api.Hand{Bag: bag(big(), 0, 1, 2, 30, 30), Melds: []api.Group{group(api.Kong, 31), open(api.Chow, 9), group(api.Kong, 32)}}
	if s, e := score.Best(h, x, api.Win{Kind: 30}); e != api.OK || s.Value != 2 {
		t.Error(s, e)
	}
	x.Melds[1] = group(api.Kong, 9)
	if s, e := score.Best(h, x, api.Win{Kind: 30}); e != api.OK || s.Value != 5 {
		t.Error(s, e)
	}
}

// when is a pattern that holds as often as its condition says.
func when(value int, cond ...api.Node) api.Pattern {
	return api.Pattern{Closed: value, Open: value, Cond: cond}
}

func last(what int) api.Node { return api.Node{Op: api.OpLast, What: what} }

const (
	inChow = 1
	inPung = 2
	inPair = 8
)

// TestWhichReading (P5.2): the reading with the most points, then with the greatest total, then the first one, of those that are enough.
func TestWhichReading(t *testing.T) {
	x, w := hand(1, 1, 3, 0), api.Win{Kind: 2, Self: true}
	scored := func(chow, pair int, limits ...api.Limit) api.House {
		return listed(small(), named(when(chow, last(inChow)), when(pair, last(inPair))), limits...)
	}
	minor := func(h api.House, chow, pair int) api.House {
		h.Minor = []api.Node{{Op: api.OpIf}, last(inPair), {Op: api.OpNumber, N: pair}, {Op: api.OpNumber, N: chow}}
		return h
	}
	least := func(h api.House, n int) api.House {
		h.Least = n
		return h
	}
	level := api.Limit{From: 2, Points: 50}
	for i, c := range []struct {
		h                        api.House
		last, value, pair, total int
	}{
		{scored(3, 3), 0, 3, 0, 3}, {scored(3, 4), 1, 4, 0, 4}, {scored(4, 3), 0, 4, 0, 4},
		{scored(2, 7, level), 1, 50, 0, 7}, {scored(7, 2, level), 0, 50, 0, 7}, {scored(7, 7, level), 0, 50, 0, 7},
		{minor(scored(9, 2), 2, 10), 1, 20, 0, 2}, {minor(scored(9, 2), 2, 9), 0, 18, 0, 9}, {minor(scored(2, 9), 9, 2), 1, 18, 0, 9}, {minor(scored(2, 9), 10, 2), 0, 20, 0, 2},
		{least(minor(scored(9, 2), 2, 10), 3), 0, 18, 0, 9}, {least(minor(scored(2, 9), 10, 2), 3), 1, 18, 0, 9}, {least(scored(3, 4), 3), 1, 4, 0, 4}, {least(scored(3, 0), 3), 0, 3, 0, 3},
		{scored(0, 0), 0, 0, 0, 0},
	} {
		s, e := score.Best(c.h, x, w)
		if e != api.OK || s.Reading.Last != c.last || s.Points != c.value || s.Total != c.total {
			t.Error(i, s, e)
		}
	}
	// A bonus adds to the total, but not to what is enough.
	w.Bonus = 100
	if s, e := score.Best(least(scored(3, 4), 4), x, w); e != api.OK || s.Value != 4 || s.Total != 104 || s.Points != 104 {
		t.Error(s, e)
	}
	if s, e := score.Best(least(scored(3, 4), 5), x, w); e != api.ErrState || !reflect.DeepEqual(s, api.Score{}) {
		t.Error(s, e)
	}
}

// TestOrderOfReadings (P5.2): the scores are in the order of the readings, by several forms, and hands of three melds have several splits.
func TestOrderOfReadings(t *testing.T) {
	h := listed(big(), named(when(1, api.Node{Op: api.OpForm, N: api.FormPairs}), when(2, api.Node{Op: api.OpTwins, N: 1}), when(3, api.Node{Op: api.OpGroups, What: inPung})))
	h.Forms = []api.Form{{What: api.FormMelds}, {What: api.FormPairs, Again: true}, {What: api.FormMelds}}
	x := hand(bag(big(), 0, 0, 0, 0, 1, 1, 1, 1, 2, 2, 2, 2, 27, 27)...)
	l, e := score.All(h, x, api.Win{Kind: 0})
	if e != api.OK || len(l) < 5 {
		t.Fatal(l, e)
	}
	readings := shape.Readings(h.Set, h.Forms, x, 0)
	for i, r := range readings {
		if len(l) != len(readings) || !reflect.DeepEqual(l[i].Reading, r) {
			t.Error(i, r)
		}
	}
	s, e := score.Best(h, x, api.Win{Kind: 0})
	// Four chows are two times two twins, three pungs of four tiles and a chow are three pungs.
	if e != api.OK || s.Value != 9 || s.Reading.Form != 0 || !reflect.DeepEqual(s.Holds, []api.Hold{{Pattern: 2, Times: 3}}) {
		t.Error(s, e)
	}
}

// winStep spoils a win.
type winStep struct {
	name   string
	spoil  func(h *api.House, x *api.Hand, w *api.Win)
	want   api.Errno
	enough bool
}

// winSteps are in the order in which their errors are found.
func winSteps() []winStep {
	return []winStep{
		{"set", func(h *api.House, _ *api.Hand, _ *api.Win) { h.Set.Copies = 5 }, api.ErrRange, false},
		{"forms", func(h *api.House, _ *api.Hand, _ *api.Win) { h.Forms = nil }, api.ErrShort, false},
		{"name", func(h *api.House, _ *api.Hand, _ *api.Win) { h.Patterns[2].Name = "a" }, api.ErrExists, false},
		{"mode", func(h *api.House, _ *api.Hand, _ *api.Win) { h.Pay.Mode = 0 }, api.ErrKind, false},
		{"bag", func(_ *api.House, x *api.Hand, _ *api.Win) { x.Bag = x.Bag[:3] }, api.ErrForm, false},
		{"meld", func(_ *api.House, x *api.Hand, _ *api.Win) { x.Melds = []api.Group{group(api.Pair, 0)} }, api.ErrKind, false},
		{"rest", func(_ *api.House, x *api.Hand, _ *api.Win) { x.Bag[2]-- }, api.ErrState, false},
		{"kind", func(_ *api.House, _ *api.Hand, w *api.Win) { w.Kind = 4 }, api.ErrRange, false},
		{"missing", func(_ *api.House, _ *api.Hand, w *api.Win) { w.Kind = 3 }, api.ErrMissing, false},
		{"seat", func(_ *api.House, _ *api.Hand, w *api.Win) { w.Seat = 3 }, api.ErrRange, false},
		{"flags", func(_ *api.House, _ *api.Hand, w *api.Win) { w.Flags = []int{2, 1} }, api.ErrOrder, false},
		{"bonus", func(_ *api.House, _ *api.Hand, w *api.Win) { w.Bonus = 1001 }, api.ErrRange, false},
		{"reading", func(_ *api.House, x *api.Hand, _ *api.Win) { x.Bag[1], x.Bag[3] = x.Bag[1]-1, x.Bag[3]+1 }, api.ErrMissing, false},
		{"least", func(h *api.House, _ *api.Hand, _ *api.Win) { h.Least = 6 }, api.ErrState, true},
	}
}

// TestErrorsOfWins (P5.2, R1, R3): of two errors the first one is returned, and no value with it.
func TestErrorsOfWins(t *testing.T) {
	steps := winSteps()
	for i, a := range steps {
		for _, b := range steps[i:] {
			h, x, w := three(), hand(1, 1, 3, 0), api.Win{Kind: 2}
			if a.name != b.name {
				b.spoil(&h, &x, &w)
			}
			a.spoil(&h, &x, &w)
			s, e := score.Best(h, x, w)
			if e != a.want || !reflect.DeepEqual(s, api.Score{}) {
				t.Error(a.name, b.name, s, e)
			}
			text, e := score.Explain(h, x, w)
			if e != a.want || len(text) != 0 {
				t.Error(a.name, b.name, text, e)
			}
			l, e := score.All(h, x, w)
			if a.enough && (e != api.OK || len(l) != 2) || !a.enough && (e != a.want || len(l) != 0) {
				t.Error(a.name, b.name, l, e)
			}
		}
	}
	// A full hand that has no reading, and one that has none for this kind.
	if _, e := score.Best(three(), hand(1, 1, 2, 1), api.Win{Kind: 3}); e != api.ErrMissing {
		t.Error(e)
	}
	if _, e := score.All(three(), hand(0, 2, 3, 0), api.Win{Kind: 0}); e != api.ErrMissing {
		t.Error(e)
	}
}

// scoresOf are the scores of all readings, by the chapter's words.
func scoresOf(p place) []api.Score {
	var l []api.Score
	isOpen := false
	for _, g := range p.x.Melds {
		isOpen = isOpen || g.Open
	}
	for _, r := range shape.Readings(p.h.Set, p.h.Forms, p.x, p.w.Kind) {
		s := api.Score{Reading: r, Holds: house.Holding(p.h, p.x, r, p.w), Minor: house.Minor(p.h, p.x, r, p.w)}
		s.Counted, s.Value = bestOf(p.h.Patterns, s.Holds, isOpen)
		s.Total = s.Value + p.w.Bonus
		s.Points = pointsOf(p.h.Scale, s.Minor, s.Total)
		l = append(l, s)
	}
	return l
}

// TestBestOfAll (P5.2, P5.9): all scores are as said; the best one is that of a reading that is enough, and none of these has more points.
func TestBestOfAll(t *testing.T) {
	several, later := 0, 0
	eachWin(t, 14, 60, func(_ *dice, p place) {
		want := scoresOf(p)
		all, e := score.All(p.h, p.x, p.w)
		if e != api.OK || !slices.EqualFunc(all, want, score.Same) {
			t.Error(all, e)
		}
		var best *api.Score
		for i, s := range want {
			if s.Value < p.h.Least {
				continue
			}
			if best == nil || s.Points > best.Points || s.Points == best.Points && s.Total > best.Total {
				best = &want[i]
				later += min(i, 1)
			}
			several++
		}
		got, e := score.Best(p.h, p.x, p.w)
		switch {
		case best == nil && (e != api.ErrState || !score.Same(got, api.Score{})):
			t.Error(got, e)
		case best != nil && (e != api.OK || !score.Same(got, *best)):
			t.Error(got, e, best)
		}
	})
	if several < 300 || later < 20 {
		t.Error("only", several, "readings,", later, "of them better than the first one")
	}
}

// TestLeastAndBonus (P5.10): with a greater Least no score becomes greater, with a greater Bonus none becomes less.
func TestLeastAndBonus(t *testing.T) {
	eachWin(t, 15, 30, func(d *dice, p place) {
		before, e := score.Best(p.h, p.x, p.w)
		more := p
		more.h.Least += 1 + d.below(3)
		s, after := score.Best(more.h, more.x, more.w)
		if e == api.ErrState && after != api.ErrState || after == api.OK && s.Points > before.Points {
			t.Error("Least", before, e, s, after)
		}
		more = p
		more.w.Bonus += 1 + d.below(3)
		fresh := !slices.ContainsFunc(p.h.Patterns, func(x api.Pattern) bool {
			return slices.ContainsFunc(x.Cond, func(n api.Node) bool { return n.Op == api.OpBonus })
		})
		s, after = score.Best(more.h, more.x, more.w)
		if fresh && (after != e || s.Points < before.Points || s.Value != before.Value && s.Points == before.Points && s.Total < before.Total) {
			t.Error("Bonus", before, e, s, after)
		}
	})
}

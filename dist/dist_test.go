package dist_test

import (
	"slices"
	"testing"

	"sparrow/api"
	"sparrow/dist"
	"sparrow/shape"
	"sparrow/tile"
)

// TestDistance (P3.2): distances, nearest targets and paths that were found by hand, among them the chapter's examples.
func TestDistance(t *testing.T) {
	melds, each, list := form(api.FormMelds), form(api.FormEach, 0, 1, 2, 3), form(api.FormList, 0, 0, 1, 1, 3)
	chow, kong := open(api.Chow, 0), api.Group{What: api.Kong, Kind: 3}
	for i, c := range []struct {
		forms  []api.Form
		h      api.Hand
		seen   []int
		n      int
		target []int
		path   [][2]int
	}{
		{melds, tiny(1, 1, 1, 1), nil, 1, []int{1, 1, 1, 2}, [][2]int{{-1, 3}}}, {melds, tiny(2, 2, 0, 1), nil, 1, []int{2, 3, 0, 0}, [][2]int{{3, 1}}}, {melds, tiny(3, 2, 0, 0), nil, 0, []int{3, 2, 0, 0}, nil}, {melds, tiny(1, 1, 1, 1), []int{0, 0, 0, 3}, 2, []int{1, 1, 3, 0}, [][2]int{{3, 2}, {-1, 2}}},
		{each, tiny(1, 1, 1, 1), nil, 1, []int{1, 1, 1, 2}, [][2]int{{-1, 3}}}, {melds, tiny(2, 0, 0, 0, chow), nil, 0, []int{2, 0, 0, 0}, nil}, {melds, tiny(1, 1, 0, 0, chow), nil, 1, []int{0, 2, 0, 0}, [][2]int{{0, 1}}},
		{melds, tiny(4, 0, 0, 0), nil, 2, []int{3, 0, 0, 2}, [][2]int{{0, 3}, {-1, 3}}}, {melds, tiny(0, 0, 0, 4), nil, 2, []int{0, 0, 2, 3}, [][2]int{{3, 2}, {-1, 2}}}, {melds, tiny(1, 0, 0, 0, kong), []int{3, 0, 0, 0}, 2, []int{0, 0, 2, 0}, [][2]int{{0, 2}, {-1, 2}}}, {melds, tiny(1, 0, 0, 0, kong), []int{3, 3, 3, 0}, -1, nil, nil},
		{melds, tiny(1, 1, 0, 0, kong), []int{3, 3, 3, 0}, -1, nil, nil}, {melds, tiny(0, 0, 0, 4), []int{4, 4, 4, 0}, -1, nil, nil}, {melds, tiny(0, 0, 1, 4), []int{4, 4, 3, 0}, -1, nil, nil}, {melds, tiny(0, 0, 1, 4), []int{4, 4, 2, 0}, 1, []int{0, 0, 2, 3}, [][2]int{{3, 2}}},
		{each, tiny(1, 1, 1, 1), []int{3, 0, 3, 3}, 1, []int{1, 2, 1, 1}, [][2]int{{-1, 1}}}, {each, tiny(1, 1, 1, 1), []int{3, 3, 3, 3}, -1, nil, nil}, {each, tiny(2, 2, 0, 0), nil, 2, []int{1, 2, 1, 1}, nil}, {each, tiny(2, 2, 0, 0), []int{0, 0, 4, 0}, -1, nil, nil}, {each, tiny(1, 0, 0, 0, chow), nil, -1, nil, nil},
		{list, tiny(1, 1, 1, 1), nil, 2, []int{2, 2, 0, 1}, [][2]int{{2, 0}, {-1, 1}}}, {list, tiny(2, 2, 0, 1), nil, 0, []int{2, 2, 0, 1}, nil}, {list, tiny(2, 2, 0, 0), []int{0, 0, 0, 4}, -1, nil, nil}, {list, tiny(1, 0, 0, 0, chow), nil, -1, nil, nil},
		{form(api.FormKnitted), tiny(1, 1, 1, 1), nil, -1, nil, nil}, {slices.Concat(form(api.FormKnitted), list, melds), tiny(1, 1, 1, 1), nil, 1, []int{1, 1, 1, 2}, [][2]int{{-1, 3}}}, {slices.Concat(each, melds), tiny(2, 0, 1, 2), nil, 1, []int{1, 1, 1, 2}, [][2]int{{0, 1}}}, {slices.Concat(melds, each), tiny(1, 1, 1, 1), []int{0, 0, 0, 3}, 1, []int{1, 1, 2, 1}, [][2]int{{-1, 2}}},
	} {
		want := api.OK
		if c.n < 0 {
			c.n, want = 0, api.ErrMissing
		}
		if n, e := dist.Distance(small(), c.forms, c.h, c.seen); n != c.n || e != want {
			t.Error(i, n, e)
		}
		if l, e := dist.Nearest(small(), c.forms, c.h, c.seen); !slices.Equal(l, c.target) || e != want {
			t.Error(i, l, e)
		}
		l, e := dist.Path(small(), c.forms, c.h, c.seen)
		if len(l) != c.n || e != want || c.path != nil && !slices.Equal(l, c.path) {
			t.Error(i, l, e)
		}
	}
}

// TestDistanceOfWholeHands (P3.2): hands of a whole set, by each form.
func TestDistanceOfWholeHands(t *testing.T) {
	orphans := tile.Orphans(big())
	chows := []api.Group{open(api.Chow, 9), open(api.Chow, 9)}
	gone := bag(big(), 33, 33, 33, 33, 32, 32, 32)
	for i, c := range []struct {
		forms []api.Form
		h     api.Hand
		seen  []int
		n     int
	}{
		{form(1), of([]int{0, 0, 0, 1, 2, 3, 4, 5, 6, 7, 8, 8, 8}), nil, 1}, {form(1), of([]int{0, 2, 4, 6, 8, 9, 11, 13, 15, 17, 27, 28, 29}), nil, 5}, {form(1), of([]int{0, 3, 6, 9, 12, 15, 18, 21, 24, 27, 28, 29, 30}), nil, 9}, {form(1), of([]int{0, 1, 2, 0, 1, 2, 0, 1, 2, 0, 1, 2, 3, 3}), nil, 0},
		{form(1), of([]int{0, 0, 0, 0, 27, 27, 27}, chows...), nil, 2}, {form(1), of([]int{0, 0, 0, 0, 27, 27, 27, 28}, chows...), nil, 1}, {form(1), of([]int{5}, append(chows, open(api.Pung, 0), api.Group{What: api.Kong, Kind: 1})...), nil, 1}, {form(1), of([]int{33}, append(chows, open(api.Pung, 0), api.Group{What: api.Kong, Kind: 1})...), bag(big(), 33, 33, 33), 2},
		{form(2), of([]int{0, 0, 3, 3, 5, 5, 9, 9, 27, 27, 28, 28, 33}), nil, 1}, {form(2), of([]int{0, 0, 0, 3, 3, 5, 5, 9, 9, 27, 27, 28, 28, 28}), nil, 2}, {form(2), of([]int{0, 0, 0, 0, 3, 3, 5, 5, 9, 9, 27, 27, 28, 28}), nil, 2}, {form(2), of([]int{0, 0, 3, 3, 5, 5, 9, 9, 27, 27, 28, 28, 33}), bag(big(), 33, 33, 33), 2}, {form(2), of([]int{0, 0, 0, 3, 3, 3, 9, 9, 9, 27, 27, 27, 28}), nil, 5},
		{[]api.Form{{What: 2, Again: true}}, of([]int{0, 0, 0, 0, 3, 3, 5, 5, 9, 9, 27, 27, 28, 28}), nil, 0}, {[]api.Form{{What: 2, Again: true}}, of([]int{0, 0, 0, 3, 3, 3, 9, 9, 9, 27, 27, 27, 28}), nil, 3}, {form(2), of([]int{0, 0, 0, 0, 3, 3, 5, 5, 9, 9, 27}, open(api.Pung, 33)), nil, -1},
		{form(3, orphans...), of(orphans), nil, 1}, {form(3, orphans...), of([]int{0, 0, 8, 8, 9, 9, 17, 17, 18, 18, 26, 26, 1}), nil, 7}, {form(3, orphans...), of([]int{1, 2, 3, 4, 5, 6, 7, 10, 11, 12, 13, 14, 15}), nil, 14}, {form(3, orphans...), of([]int{1, 2, 3, 4, 5, 6, 7, 10, 11, 12, 13, 14, 15}), gone, -1}, {form(3, orphans...), of(orphans), bag(big(), 33, 33, 33, 32, 32, 32), 1},
		{form(4), of([]int{0, 3, 6, 10, 13, 16, 27, 28, 29, 30, 31, 32, 33}), nil, 1}, {form(4), of([]int{0, 0, 0, 0, 1, 1, 1, 1, 2, 2, 2, 2, 3}), nil, 12}, {form(4), of([]int{0, 9, 18, 0, 9, 18, 0, 9, 18, 0, 9, 18, 33}), nil, 12}, {form(4), of([]int{0, 3, 6, 10, 13, 16, 20, 23, 26, 27, 28, 29, 30}), bag(big(), 31, 31, 31, 31, 32, 32, 32, 32, 33, 33, 33, 33), -1},
		{form(4), of([]int{0, 3, 6, 10, 13, 16, 20, 23, 26, 27, 28, 29, 30}), bag(big(), 31, 31, 31, 31, 32, 32, 32, 32), 1}, {form(5), of([]int{0, 3, 6, 10, 13, 16, 20, 23, 26, 5}, open(api.Pung, 31)), nil, 1}, {form(5), of([]int{0, 3, 6, 10, 13, 16, 20, 5, 5, 5}, open(api.Pung, 31)), nil, 2}, {form(5), of([]int{0, 3, 6, 10, 13, 16, 20}, chows...), nil, -1},
		{form(5), of([]int{0, 3, 6, 10, 13, 16, 20, 23, 26, 0, 1, 2, 3}), nil, 1}, {form(5), of([]int{27, 27, 27, 28, 28, 28, 29, 29, 29, 30, 30, 30, 31}), nil, 9}, {form(5), of([]int{0, 3, 6, 9, 12, 15, 18, 21, 24, 33, 33, 33, 31}), nil, 7}, {slices.Concat(form(5), form(1), form(4), form(2), form(3, orphans...)), of([]int{0, 3, 6, 9, 12, 15, 18, 21, 24, 27, 27, 28, 31}), nil, 6},
	} {
		n, e := dist.Distance(big(), c.forms, c.h, c.seen)
		if c.n >= 0 && (n != c.n || e != api.OK) || c.n < 0 && e != api.ErrMissing {
			t.Error(i, n, e)
		}
	}
}

// TestLack (P3.2): what a hand lacks for a target, and which bags are none.
func TestLack(t *testing.T) {
	melds, both := form(api.FormMelds), slices.Concat(form(api.FormMelds), form(api.FormEach, 0, 1, 2, 3))
	for i, c := range []struct {
		forms        []api.Form
		h            api.Hand
		seen, target []int
		n            int
	}{
		{melds, tiny(2, 2, 0, 1), nil, []int{3, 2, 0, 0}, 1}, {melds, tiny(2, 2, 0, 1), nil, []int{2, 3, 0, 0}, 1}, {melds, tiny(2, 2, 0, 1), nil, []int{1, 1, 1, 2}, 2}, {melds, tiny(2, 2, 0, 1), nil, []int{0, 0, 2, 3}, 4}, {melds, tiny(2, 2, 0, 0), nil, []int{3, 2, 0, 0}, 1}, {melds, tiny(1, 1, 1, 2), nil, []int{1, 1, 1, 2}, 0},
		{melds, tiny(2, 2, 0, 1), nil, []int{2, 2, 1, 0}, -1}, {melds, tiny(2, 2, 0, 1), nil, []int{2, 2, 0, 1}, -1}, {melds, tiny(2, 2, 0, 1), nil, []int{3, 2, 0}, -1}, {melds, tiny(2, 2, 0, 1), nil, []int{3, 2, 0, 0, 0}, -1}, {melds, tiny(2, 2, 0, 1), nil, nil, -1}, {melds, tiny(2, 2, 0, 1), nil, []int{3, 3, 0, -1}, -1}, {melds, tiny(2, 2, 0, 1), nil, []int{5, 0, 0, 0}, -1},
		{melds, tiny(2, 2, 0, 1), nil, []int{2, 0, 0, 0}, -1}, {melds, tiny(2, 2, 0, 1), nil, []int{3, 1, 0, 0}, -1}, {melds, tiny(2, 2, 0, 0), nil, []int{2, 2, 0, 0}, -1}, {melds, tiny(2, 2, 0, 1), nil, []int{1, 2, 1, 1}, -1}, {both, tiny(2, 2, 0, 1), nil, []int{1, 2, 1, 1}, 1}, {both, tiny(2, 2, 0, 1), nil, []int{3, 0, 2, 0}, 3},
		{melds, tiny(2, 2, 0, 1), []int{0, 0, 0, 2}, []int{1, 1, 1, 2}, 2}, {melds, tiny(2, 2, 0, 1), []int{0, 0, 0, 3}, []int{1, 1, 1, 2}, -1}, {melds, tiny(2, 2, 0, 1), []int{1, 0, 0, 0}, []int{3, 2, 0, 0}, 1}, {melds, tiny(2, 2, 0, 1), []int{2, 0, 0, 0}, []int{3, 2, 0, 0}, -1},
		{melds, tiny(1, 1, 0, 0, open(api.Chow, 0)), nil, []int{0, 0, 2, 0}, 2}, {melds, tiny(1, 1, 0, 0, open(api.Chow, 0)), []int{0, 0, 2, 0}, []int{0, 0, 2, 0}, -1}, {melds, tiny(1, 1, 0, 0, open(api.Chow, 0)), nil, []int{1, 1, 0, 0}, -1}, {melds, tiny(1, 1, 0, 0, open(api.Pung, 3)), nil, []int{0, 0, 0, 2}, -1}, {melds, tiny(1, 0, 0, 0, open(api.Pung, 3)), nil, []int{3, 2, 0, 0}, -1},
	} {
		n, e := dist.Lack(small(), c.forms, c.h, c.seen, c.target)
		if c.n >= 0 && (n != c.n || e != api.OK) || c.n < 0 && (n != 0 || e != api.ErrForm) {
			t.Error(i, n, e)
		}
	}
}

// TestImproves (P3.3): the kinds that improve a hand at rest, and its errors in their order.
func TestImproves(t *testing.T) {
	for i, c := range []struct {
		h     api.Hand
		seen  []int
		kinds []int
		want  api.Errno
	}{
		{tiny(1, 1, 1, 1), nil, []int{3}, api.OK}, {tiny(1, 1, 1, 1), []int{0, 0, 0, 3}, []int{0, 1, 2}, api.OK}, {tiny(2, 2, 0, 0), nil, []int{0, 1}, api.OK}, {tiny(2, 2, 0, 0), []int{2, 0, 0, 0}, []int{1}, api.OK}, {tiny(2, 2, 0, 0), []int{2, 2, 0, 0}, []int{2, 3}, api.OK}, {tiny(1, 0, 0, 0, open(api.Chow, 0)), nil, []int{0}, api.OK},
		{tiny(1, 0, 0, 0, open(api.Chow, 0)), []int{2, 0, 0, 3}, []int{1, 2}, api.OK}, {tiny(2, 2, 0, 1), nil, nil, api.ErrState}, {tiny(3, 2, 0, 0), nil, nil, api.ErrState}, {tiny(1, 0, 0, 4), []int{3, 4, 4, 0}, nil, api.ErrState}, {tiny(0, 0, 0, 4), []int{4, 4, 4, 0}, nil, api.ErrMissing},
	} {
		if l, e := dist.Improves(small(), form(api.FormMelds), c.h, c.seen); !slices.Equal(l, c.kinds) || e != c.want {
			t.Error(i, l, e)
		}
	}
	if l, e := dist.Improves(big(), form(3, tile.Orphans(big())...), of(tile.Orphans(big())), nil); e != api.OK || !slices.Equal(l, tile.Orphans(big())) {
		t.Error(l, e)
	}
}

// TestLeft (P3.3): tiles that are left; kinds count once, other numbers do not.
func TestLeft(t *testing.T) {
	wrong := small()
	wrong.Players = 2
	h, chow, kong := tiny(2, 2, 0, 1), tiny(0, 0, 1, 1, open(api.Chow, 0)), tiny(0, 1, 0, 0, api.Group{What: api.Kong, Kind: 3})
	for i, c := range []struct {
		s           api.Set
		h           api.Hand
		seen, kinds []int
		want        int
	}{
		{small(), h, nil, []int{0, 1, 3, 3, 9}, 7}, {small(), h, nil, []int{3, 0, 3, 0}, 5}, {small(), h, nil, nil, 0}, {small(), h, nil, []int{-1, 4, 1 << 40}, 0}, {small(), h, []int{1, 0, 4, 0}, []int{0, 2, -1}, 1}, {small(), h, []int{2, 2, 4, 3}, []int{0, 1, 2, 3}, 0},
		{small(), chow, nil, []int{0, 1, 2, 3}, 11}, {small(), chow, []int{0, 0, 2, 0}, []int{2}, 0}, {small(), kong, nil, []int{3}, 0}, {small(), kong, nil, []int{1, 2, 3}, 7}, {lone(), api.Hand{Bag: bag(lone(), 0, 1, 2, 3)}, nil, []int{0, 4, 5, 12, 13}, 3},
		{wrong, h, nil, []int{0}, 0}, {small(), tiny(2, 0, 0, 0), nil, []int{0}, 0}, {small(), api.Hand{}, nil, []int{0}, 0}, {small(), h, []int{0}, []int{0}, 0}, {small(), h, []int{0, 0, 0, 5}, []int{0}, 0}, {small(), h, []int{0, 0, 0, 4}, []int{0}, 0}, {small(), h, []int{0, -1, 0, 0}, []int{0}, 0},
	} {
		if n := dist.Left(c.s, c.h, c.seen, c.kinds); n != c.want {
			t.Error(i, n)
		}
	}
}

// TestNarrowSets (P3.2, P3.3, P3.4, P3.7): distances, nearest targets, improving kinds and choices are those that the oracle finds among all bags.
func TestNarrowSets(t *testing.T) {
	d, many := dice(3), map[int]int{}
	for i, s := range narrow() {
		all := formsFor(s)
		lists := [][]api.Form{all, all[:1]}
		for _, f := range all[1:] {
			lists = append(lists, []api.Form{f})
		}
		for _, forms := range lists {
			for _, melds := range [][]api.Group{nil, d.some(s, 1), d.some(s, s.Melds)} {
				w := newWorld(s, forms, melds)
				for n := range 14 {
					h, seen := d.hand(s, melds, n%2 == 0)
					many[checkHand(t, i, w, forms, h, seen)]++
				}
			}
		}
	}
	for n := -1; n < 5; n++ {
		if many[n] < 10 {
			t.Error("too few hands with the distance", n, many)
		}
	}
}

// checkHand asks whether all that is said of a hand is what the oracle says, and returns its distance, -1 if there is none.
func checkHand(t *testing.T, i int, w world, forms []api.Form, h api.Hand, seen []int) int {
	t.Helper()
	distance, nearest, more := w.nearest(h.Bag, seen)
	want := api.OK
	if distance < 0 {
		want = api.ErrMissing
	}
	if n, e := dist.Distance(w.s, forms, h, seen); n != max(0, distance) || e != want {
		t.Error(i, forms, h, seen, n, e, distance)
	}
	if l, e := dist.Nearest(w.s, forms, h, seen); !slices.Equal(l, nearest) || e != want {
		t.Error(i, forms, h, seen, l, e, nearest)
	}
	if !shape.Full(w.s, h) {
		if improving := w.improving(h.Bag, seen); !slices.Equal(improving, more) {
			t.Error(i, forms, h, seen, improving, more)
		}
		if l, e := dist.Improves(w.s, forms, h, seen); !slices.Equal(l, more) || e != want {
			t.Error(i, forms, h, seen, l, e, more)
		}
		return distance
	}
	choices := w.choices(h.Bag, seen)
	if l, e := dist.Choices(w.s, forms, h, seen); !slices.EqualFunc(l, choices, sameChoice) || e != api.OK {
		t.Error(i, forms, h, seen, l, e, choices)
	}
	best, ok := bestOf(choices)
	if k, e := dist.Best(w.s, forms, h, seen); k != best || ok != (e == api.OK) || !ok && e != api.ErrMissing {
		t.Error(i, forms, h, seen, k, e, best)
	}
	return distance
}

// TestWideSets (P3.2, P3.3, P3.4, P3.7): the same for straights, and for melds beside declared ones, of sets with three suits.
func TestWideSets(t *testing.T) {
	d := dice(5)
	for _, s := range []api.Set{three(), big()} {
		melds := [][]api.Group{{open(api.Chow, 2)}, {open(api.Pung, 9), {What: api.Chow, Kind: 10, Open: true}, {What: api.Pung, Kind: 26, Open: true}}}[s.Melds-3]
		w := builtWorld(s, melds, nil, s.Melds-len(melds))
		slices.SortFunc(w.wins, slices.Compare)
		for n := range 8 {
			h, seen := d.hand(s, melds, n%4 == 0)
			checkHand(t, n, w, form(api.FormMelds), h, seen)
		}
		straight := world{s: s}
		for _, kinds := range knots(s) {
			straight.wins = append(straight.wins, builtWorld(s, nil, kinds, s.Melds-3).wins...)
		}
		slices.SortFunc(straight.wins, slices.Compare)
		for n := range 8 {
			h, seen := d.hand(s, nil, n == 0)
			if n > 4 {
				h, seen = d.near(s, true, n-4)
				if len(h.Melds) > 0 {
					continue
				}
			}
			checkHand(t, n, straight, form(api.FormStraight), h, seen)
		}
	}
}

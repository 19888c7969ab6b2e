package dist_test

import (
	"math"
	"slices"
	"testing"

	"sparrow/api"
	"sparrow/dist"
	"sparrow/shape"
)

// errorsOf are the errors of all functions that return one, Check's first; nothing if one of them returns a result beside its error.
func errorsOf(s api.Set, forms []api.Form, h api.Hand, seen []int) []api.Errno {
	n, a := dist.Distance(s, forms, h, seen)
	target, b := dist.Nearest(s, forms, h, seen)
	lack, c := dist.Lack(s, forms, h, seen, nil)
	path, d := dist.Path(s, forms, h, seen)
	kinds, e := dist.Improves(s, forms, h, seen)
	choices, f := dist.Choices(s, forms, h, seen)
	best, g := dist.Best(s, forms, h, seen)
	calls, i := dist.Calls(s, forms, h, seen, -1, true)
	if a != api.OK && n != 0 || b != api.OK && target != nil || lack != 0 || d != api.OK && path != nil ||
		e != api.OK && kinds != nil || f != api.OK && choices != nil || g != api.OK && best != 0 || calls != nil {
		return nil // against R3
	}
	return []api.Errno{dist.Check(s, forms, h, seen), a, b, c, d, e, f, g, i}
}

// TestCheck (P3.1): the errors of forms, hands and seen tiles, in this order, which all functions return.
func TestCheck(t *testing.T) {
	wrong := small()
	wrong.Dead = 4
	pung, melds, none := open(api.Pung, 3), form(api.FormMelds), []int{0, 0, 0, 0}
	for i, c := range []struct {
		s     api.Set
		forms []api.Form
		h     api.Hand
		seen  []int
		want  api.Errno
	}{
		{wrong, form(9), tiny(9, 9, 9, 9), []int{9}, api.ErrShort}, {api.Set{}, nil, api.Hand{}, nil, api.ErrRange},
		{small(), nil, tiny(9, 9, 9, 9), []int{9}, api.ErrShort}, {small(), form(9), tiny(9, 9, 9, 9), []int{9}, api.ErrKind}, {small(), slices.Repeat(melds, 9), tiny(1, 1, 1, 1), nil, api.ErrFull}, {small(), form(2), tiny(1, 1, 1, 1), nil, api.ErrForm},
		{small(), form(3, 0, 1, 3, 2), tiny(1, 1, 1, 1), nil, api.ErrOrder}, {small(), append(melds, form(5)...), tiny(1, 1, 1, 1), nil, api.ErrForm},
		{small(), melds, api.Hand{}, []int{9}, api.ErrForm}, {small(), melds, tiny(5, 0, 0, 0), []int{9}, api.ErrRange}, {small(), melds, tiny(1, 1, 1, 0), []int{9}, api.ErrShort}, {small(), melds, tiny(2, 2, 2, 0), []int{9}, api.ErrLong}, {small(), melds, tiny(0, 0, 1, 1, pung, pung), []int{9}, api.ErrFull},
		{small(), melds, tiny(0, 0, 0, 2, pung), []int{9}, api.ErrFull}, {small(), melds, tiny(1, 0, 0, 0, open(api.Pair, 3)), []int{9}, api.ErrKind},
		{small(), melds, tiny(1, 1, 1, 1), []int{9}, api.ErrForm}, {small(), melds, tiny(1, 1, 1, 1), []int{0, 0, 0}, api.ErrForm}, {small(), melds, tiny(1, 1, 1, 1), []int{0, 0, 0, 0, 0}, api.ErrForm}, {small(), melds, tiny(1, 1, 1, 1), []int{9, -9, 0, 0, 0}, api.ErrForm},
		{small(), melds, tiny(1, 1, 1, 1), []int{0, -1, 0, 0}, api.ErrRange}, {small(), melds, tiny(1, 1, 1, 1), []int{0, 0, 0, 5}, api.ErrRange}, {small(), melds, tiny(1, 1, 1, 1), []int{math.MaxInt, 0, 0, 0}, api.ErrRange}, {small(), melds, tiny(1, 1, 1, 1), []int{math.MinInt, 0, 0, 0}, api.ErrRange},
		{small(), melds, tiny(1, 1, 1, 1), []int{4, 0, 0, 0}, api.ErrFull}, {small(), melds, tiny(1, 1, 1, 1), []int{4, -1, 0, 0}, api.ErrFull}, {small(), melds, tiny(1, 1, 1, 1), []int{3, -1, 4, 0}, api.ErrRange}, {small(), melds, tiny(0, 0, 0, 4), []int{4, 4, 4, 1}, api.ErrFull},
		{small(), melds, tiny(1, 0, 0, 1, open(api.Chow, 0)), []int{3, 0, 0, 0}, api.ErrFull}, {small(), melds, tiny(0, 0, 1, 1, pung), []int{0, 0, 0, 1}, api.ErrFull}, {small(), melds, tiny(0, 0, 1, 0, api.Group{What: api.Kong, Kind: 3}), []int{0, 0, 0, 1}, api.ErrFull},
		{small(), melds, tiny(1, 1, 1, 1), []int{3, 3, 3, 3}, api.OK}, {small(), melds, tiny(1, 1, 1, 1), []int{}, api.OK}, {small(), melds, tiny(1, 1, 1, 1), none, api.OK}, {small(), melds, tiny(0, 0, 1, 1, pung), []int{4, 4, 3, 0}, api.OK}, {small(), melds, tiny(1, 0, 0, 1, open(api.Chow, 0)), []int{2, 3, 3, 3}, api.OK},
	} {
		got := errorsOf(c.s, c.forms, c.h, c.seen)
		if got == nil || got[0] != c.want {
			t.Errorf("%d: %v instead of %v", i, got, c.want)
			continue
		}
		if c.want != api.OK && slices.ContainsFunc(got, func(e api.Errno) bool { return e != c.want }) {
			t.Errorf("%d: %v instead of %v", i, got, c.want)
		}
	}
}

// wild are arguments of all sorts.
func wild() (sets []api.Set, forms [][]api.Form, hands []api.Hand, bags [][]int) {
	broken := big()
	broken.Winds, broken.Copies = math.MaxInt, math.MinInt
	sets = []api.Set{{}, broken, small(), big(), lone(), two(), three()}
	forms = [][]api.Form{nil, form(1), form(math.MinInt), form(6, -1, 99, 3, 4, 5), form(3, math.MaxInt), {{What: 2, Again: true}, {What: 4}, {What: 1}}, slices.Concat(form(4), form(5), form(1)), slices.Repeat(form(5), 8)}
	bags = [][]int{nil, {0}, {1, 1, 1, 1}, {2, 1, 1, 1}, {-1, 9, math.MaxInt, math.MinInt}, slices.Repeat([]int{math.MaxInt}, 34), slices.Repeat([]int{1}, 14), make([]int, 34), bag(big(), 0, 1, 2, 3, 4, 5, 6, 7, 8, 9, 9, 9, 9), bag(big(), 0, 33), bag(lone(), 0, 1, 5, 9, 12)}
	for _, b := range bags {
		hands = append(hands, api.Hand{Bag: b}, api.Hand{Bag: b, Melds: []api.Group{{What: math.MaxInt, Kind: math.MinInt}}}, api.Hand{Bag: b, Melds: slices.Repeat([]api.Group{open(api.Chow, 0)}, 4)})
	}
	return sets, forms, hands, bags
}

// TestNoPanic (P1): arguments of any values.
func TestNoPanic(t *testing.T) {
	sets, forms, hands, bags := wild()
	for _, s := range sets {
		for _, f := range forms {
			for _, h := range hands {
				noPanic(t, "a function", func() {
					for _, b := range bags {
						dist.Left(s, h, b, []int{math.MinInt, -1, 0, 34, math.MaxInt})
						if e := dist.Check(s, f, h, b); e == api.OK || b == nil {
							errorsOf(s, f, h, b)
						}
						dist.Lack(s, f, h, nil, b)
					}
					for _, k := range []int{math.MinInt, -1, 0, 1, 33, 34, math.MaxInt} {
						dist.Calls(s, f, h, nil, k, true)
						dist.Calls(s, f, h, nil, k, false)
					}
				})
			}
		}
	}
}

// TestArgumentsStay (R4): arguments stay as they are, with the memory behind them, and results are new each time.
func TestArgumentsStay(t *testing.T) {
	forms := []api.Form{{What: api.FormEach, Kinds: []int{0, 1, 2, 3}}, {What: api.FormMelds}}
	bag := []int{2, 1, 1, 0, -9}
	melds := []api.Group{{}, {What: 9}}
	seen := []int{0, 1, 0, 1, -9}
	for _, full := range []bool{false, true} {
		bag[3] = 0
		if full {
			bag[3] = 1
		}
		h := api.Hand{Bag: bag[:4], Melds: melds[:0]}
		before := shape.Copy(h)
		for range 2 {
			got := errorsOf(small(), forms, h, seen[:4])
			if len(got) == 0 {
				t.Fatal(full)
			}
			dist.Left(small(), h, seen[:4], []int{0, 1})
			dist.Lack(small(), forms, h, seen[:4], []int{1, 1, 1, 2})
			dist.Calls(small(), forms, h, seen[:4], 0, true)
			l, _ := dist.Nearest(small(), forms, h, seen[:4])
			clear(l)
			kinds, _ := dist.Improves(small(), forms, h, seen[:4])
			clear(kinds)
			choices, _ := dist.Choices(small(), forms, h, seen[:4])
			for _, c := range choices {
				clear(c.Kinds)
			}
		}
		if !shape.Same(h, before) || bag[4] != -9 || melds[0] != (api.Group{}) || melds[1].What != 9 || !slices.Equal(seen, []int{0, 1, 0, 1, -9}) || !slices.Equal(forms[0].Kinds, []int{0, 1, 2, 3}) {
			t.Error(full, bag, melds, seen, forms)
		}
	}
	h := tiny(2, 1, 1, 1)
	l, _ := dist.Choices(small(), forms, h, nil)
	l[0].Kinds[0] = 99
	if m, _ := dist.Choices(small(), forms, h, nil); slices.Contains(m[0].Kinds, 99) || slices.Contains(l[1].Kinds, 99) {
		t.Error(l, m)
	}
}

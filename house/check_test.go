package house_test

import (
	"math"
	"slices"
	"strings"
	"testing"

	"sparrow/api"
	"sparrow/house"
	"sparrow/shape"
	"sparrow/tile"
)

// wrongSets are sets that are not valid, each with another error.
func wrongSets() []api.Set {
	players, suits, reds, dead := small(), small(), small(), small()
	players.Players = 5
	suits.Suits = []int{3, 3, 3, 3}
	reds.Reds = []int{2, 1}
	dead.Dead = 4
	return []api.Set{{}, players, suits, reds, dead}
}

// step is a change that makes something not valid, and the error that it then has.
type step struct {
	name   string
	change func(*api.House)
	want   api.Errno
}

// checkSteps checks that each step has its error, and that of two steps the first one has: they are in the chapter's order.
func checkSteps(t *testing.T, check func(api.House) api.Errno, steps []step) {
	t.Helper()
	if e := check(full()); e != api.OK {
		t.Fatal(e)
	}
	for i, a := range steps {
		h := full()
		a.change(&h)
		if e := check(h); e != a.want {
			t.Errorf("%s: %v instead of %v", a.name, e, a.want)
		}
		for _, b := range steps[i+1:] {
			h := full()
			b.change(&h)
			a.change(&h)
			if e := check(h); e != a.want {
				t.Errorf("%s with %s: %v instead of %v", a.name, b.name, e, a.want)
			}
		}
	}
}

// bounds checks that a number is valid from least to most, and outside has an error.
func bounds(t *testing.T, name string, check func(api.House) api.Errno, field func(*api.House) *int, least, most int, want api.Errno) {
	t.Helper()
	for _, n := range []int{least, (least + most) / 2, most} {
		h := full()
		*field(&h) = n
		if e := check(h); e != api.OK {
			t.Error(name, n, e)
		}
	}
	for _, n := range []int{least - 1, most + 1, math.MinInt, math.MaxInt} {
		h := full()
		*field(&h) = n
		if e := check(h); e != want {
			t.Error(name, n, e)
		}
	}
}

func scaleOf(h api.House) api.Errno { return house.CheckScale(h.Scale) }
func payOf(h api.House) api.Errno   { return house.CheckPay(h.Set, h.Pay) }
func playOf(h api.House) api.Errno  { return house.CheckPlay(h.Set, h.Play) }

func limits(l ...api.Limit) func(*api.House) {
	return func(h *api.House) { h.Scale.Limits = l }
}

func scaleSteps() []step {
	return []step{
		{"base", func(h *api.House) { h.Scale.Base = -1 }, api.ErrRange},
		{"round", func(h *api.House) { h.Scale.Round = 0 }, api.ErrRange},
		{"many limits", limits(make([]api.Limit, 13)...), api.ErrFull},
		{"limits", limits(api.Limit{From: 5, Points: 5}, api.Limit{From: 5, Points: 4}), api.ErrOrder},
	}
}

// TestCheckScale (P4.1): each error of a scale, and which one comes first.
func TestCheckScale(t *testing.T) {
	for _, check := range []func(api.House) api.Errno{scaleOf, house.CheckHouse} {
		checkSteps(t, check, scaleSteps())
		bounds(t, "Base", check, func(h *api.House) *int { return &h.Scale.Base }, 0, 1000, api.ErrRange)
		bounds(t, "Round", check, func(h *api.House) *int { return &h.Scale.Round }, 1, 10000, api.ErrRange)
	}
	var twelve []api.Limit
	for i := range 12 {
		twelve = append(twelve, api.Limit{From: i + 1, Points: i / 2})
	}
	for i, c := range []struct {
		l    []api.Limit
		want api.Errno
	}{
		{nil, api.OK}, {twelve, api.OK}, {append(slices.Clone(twelve), api.Limit{From: 13, Points: 6}), api.ErrFull}, {make([]api.Limit, 13), api.ErrFull},
		{[]api.Limit{{From: 1}}, api.OK}, {[]api.Limit{{From: 1000, Points: 1000000}}, api.OK}, {[]api.Limit{{From: 0}}, api.ErrRange}, {[]api.Limit{{From: 1001}}, api.ErrRange}, {[]api.Limit{{From: 1, Points: -1}}, api.ErrRange}, {[]api.Limit{{From: 1, Points: 1000001}}, api.ErrRange},
		{[]api.Limit{{From: math.MaxInt}}, api.ErrRange}, {[]api.Limit{{From: 1, Points: math.MinInt}}, api.ErrRange},
		{[]api.Limit{{From: 2, Points: 5}, {From: 2, Points: 6}}, api.ErrOrder}, {[]api.Limit{{From: 2, Points: 5}, {From: 1, Points: 6}}, api.ErrOrder}, {[]api.Limit{{From: 2, Points: 5}, {From: 3, Points: 4}}, api.ErrOrder}, {[]api.Limit{{From: 2, Points: 5}, {From: 3, Points: 5}}, api.OK},
		{[]api.Limit{{From: 2, Points: 5}, {From: 1, Points: 5}, {From: 0}}, api.ErrOrder}, {[]api.Limit{{From: 2, Points: 5}, {From: 0, Points: 5}}, api.ErrRange}, {[]api.Limit{{From: 1, Points: 5}, {From: 3, Points: 6}, {From: 2, Points: 7}}, api.ErrOrder},
	} {
		if e := house.CheckScale(api.Scale{Round: 1, Limits: c.l}); e != c.want {
			t.Error(i, e)
		}
	}
}

func places4(l ...int) func(*api.House) { return func(h *api.House) { h.Pay.Places = l } }
func feeds(l ...api.Feed) func(*api.House) {
	return func(h *api.House) { h.Pay.Feeds = l }
}

func paySteps() []step {
	return []step{
		{"mode", func(h *api.House) { h.Pay.Mode = 0 }, api.ErrKind},
		{"basic", func(h *api.House) { h.Pay.Basic = -1 }, api.ErrRange},
		{"pool", func(h *api.House) { h.Pay.Pool = 9 }, api.ErrRange},
		{"rounds", func(h *api.House) { h.Pay.Rounds = 0 }, api.ErrRange},
		{"stay", func(h *api.House) { h.Pay.Stay = 8 }, api.ErrRange},
		{"places", places4(1, -1, 0), api.ErrForm},
		{"feeds", feeds(make([]api.Feed, 5)...), api.ErrFull},
	}
}

// TestCheckPay (P4.1): each error of a pay, and which one comes first.
func TestCheckPay(t *testing.T) {
	for _, check := range []func(api.House) api.Errno{payOf, house.CheckHouse} {
		checkSteps(t, check, paySteps())
		bounds(t, "Mode", check, func(h *api.House) *int { return &h.Pay.Mode }, 1, 3, api.ErrKind)
		for i := range 5 {
			bounds(t, "points", check, func(h *api.House) *int {
				return []*int{&h.Pay.Basic, &h.Pay.Counter, &h.Pay.Stick, &h.Pay.Foul, &h.Pay.Start}[i]
			}, 0, 1000000, api.ErrRange)
		}
		bounds(t, "Rounds", check, func(h *api.House) *int { return &h.Pay.Rounds }, 1, 16, api.ErrRange)
		bounds(t, "Stay", check, func(h *api.House) *int { return &h.Pay.Stay }, 0, 7, api.ErrRange)
		bounds(t, "Many", check, func(h *api.House) *int { return &h.Pay.Feeds[1].Many }, 1, 4, api.ErrRange)
	}
	for _, n := range []int{0, 6, 3000, 999996} {
		if e := house.CheckPay(small(), api.Pay{Mode: 1, Rounds: 1, Pool: n}); e != api.OK {
			t.Error(n, e)
		}
	}
	for _, n := range []int{-6, 1, 2, 3, 4, 5, 9, 1000000, 1000002, math.MinInt, math.MaxInt} {
		if e := house.CheckPay(small(), api.Pay{Mode: 1, Rounds: 1, Pool: n}); e != api.ErrRange {
			t.Error(n, e)
		}
	}
}

// TestPlacesAndFeeds (P4.1): the lists of a pay.
func TestPlacesAndFeeds(t *testing.T) {
	feed := func(many int, kinds ...int) api.Feed { return api.Feed{Many: many, Kinds: kinds} }
	for i, c := range []struct {
		s      api.Set
		places []int
		feeds  []api.Feed
		want   api.Errno
	}{
		{s: small()}, {s: small(), places: []int{0, 0, 0}}, {s: small(), places: []int{1000000, -1000000, 0}}, {s: big(), places: []int{5, 4, -4, -5}},
		{small(), []int{1, -1}, nil, api.ErrForm}, {small(), []int{0, 0, 0, 0}, nil, api.ErrForm}, {big(), []int{0, 0, 0}, nil, api.ErrForm}, {small(), []int{9000000}, nil, api.ErrForm},
		{small(), []int{1, 0, 0}, nil, api.ErrClash}, {small(), []int{0, 0, -1}, nil, api.ErrClash}, {small(), []int{1000001, -1000001, 0}, nil, api.ErrRange}, {small(), []int{-1000001, 1000001, 0}, nil, api.ErrRange}, {small(), []int{1, 0, math.MinInt}, nil, api.ErrRange}, {small(), []int{math.MaxInt, math.MaxInt, 2}, nil, api.ErrRange},
		{small(), []int{1, 0, 0}, []api.Feed{{}}, api.ErrClash},
		{s: big(), feeds: []api.Feed{feed(1, 0), feed(4, 33), feed(2, 0, 33), feed(1, 0)}}, {big(), nil, slices.Repeat([]api.Feed{feed(1, 0)}, 5), api.ErrFull}, {big(), nil, make([]api.Feed, 5), api.ErrFull},
		{big(), nil, []api.Feed{feed(9)}, api.ErrShort}, {big(), nil, []api.Feed{feed(9, 34)}, api.ErrRange}, {big(), nil, []api.Feed{feed(1, -1)}, api.ErrRange}, {big(), nil, []api.Feed{feed(9, 3, 3)}, api.ErrOrder}, {big(), nil, []api.Feed{feed(1, 3, 2, 34)}, api.ErrOrder}, {big(), nil, []api.Feed{feed(1, 3, 34, 2)}, api.ErrRange},
		{big(), nil, []api.Feed{feed(0, 3)}, api.ErrRange}, {big(), nil, []api.Feed{feed(5, 3)}, api.ErrRange}, {small(), nil, []api.Feed{feed(2, 3)}, api.ErrRange}, {small(), nil, []api.Feed{feed(1, 4)}, api.ErrRange}, {s: small(), feeds: []api.Feed{feed(1, 0, 1, 2, 3)}},
		{big(), nil, []api.Feed{feed(1, 3), feed(1)}, api.ErrShort}, {big(), nil, []api.Feed{feed(0, 3), feed(1)}, api.ErrRange}, {big(), nil, []api.Feed{feed(1, 3, 3), feed(1)}, api.ErrOrder}, {uneven(), nil, []api.Feed{feed(1, 14)}, api.ErrRange},
	} {
		if e := house.CheckPay(c.s, api.Pay{Mode: 1, Rounds: 1, Places: c.places, Feeds: c.feeds}); e != c.want {
			t.Error(i, e)
		}
	}
}

// TestCheckPlay (P4.1): each error of a play, and which one comes first.
func TestCheckPlay(t *testing.T) {
	for _, check := range []func(api.House) api.Errno{playOf, house.CheckHouse} {
		for _, c := range []struct {
			name        string
			field       func(*api.House) *int
			least, most int
		}{
			{"Heads", func(h *api.House) *int { return &h.Play.Heads }, 1, 3}, {"Last", func(h *api.House) *int { return &h.Play.Last }, 0, 144}, {"Rob", func(h *api.House) *int { return &h.Play.Rob }, 0, 2}, {"Kongs", func(h *api.House) *int { return &h.Play.Kongs }, 0, 16},
			{"Nines", func(h *api.House) *int { return &h.Play.Nines }, 0, 34}, {"Time", func(h *api.House) *int { return &h.Play.Time }, 1, 1000}, {"Foul", func(h *api.House) *int { return &h.Play.Foul }, 1, 2}, {"Indicators", func(h *api.House) *int { return &h.Play.Indicators }, 0, 5},
		} {
			bounds(t, c.name, check, c.field, c.least, c.most, api.ErrRange)
		}
	}
	for i, c := range []struct {
		dead, indicators int
		want             api.Errno
	}{
		{0, 0, api.OK}, {2, 1, api.OK}, {1, 1, api.ErrShort}, {0, 1, api.ErrShort}, {9, 5, api.ErrShort}, {10, 5, api.OK}, {20, 6, api.ErrRange}, {0, 6, api.ErrRange}, {0, -1, api.ErrRange},
	} {
		s, p := big(), api.Play{Heads: 1, Time: 1, Foul: 1, Indicators: c.indicators}
		s.Dead = c.dead
		if e := house.CheckPlay(s, p); e != c.want {
			t.Error(i, e)
		}
		p.Time = 0
		if e := house.CheckPlay(s, p); e != api.ErrRange {
			t.Error(i, e)
		}
	}
}

func houseSteps() []step {
	steps := []step{
		{"set", func(h *api.House) { h.Set.Copies = 5 }, api.ErrRange},
		{"forms", func(h *api.House) { h.Forms = nil }, api.ErrShort},
		{"patterns", func(h *api.House) { h.Patterns = append(h.Patterns, make([]api.Pattern, 38)...) }, api.ErrFull},
		{"name", func(h *api.House) { h.Patterns[0].Name = "A" }, api.ErrForm},
		{"closed", func(h *api.House) { h.Patterns[0].Closed = -1 }, api.ErrRange},
		{"open", func(h *api.House) { h.Patterns[0].Open = 1001 }, api.ErrRange},
		{"cond", func(h *api.House) { h.Patterns[0].Cond = []api.Node{{}} }, api.ErrKind},
		{"excludes", func(h *api.House) { h.Patterns[0].Excludes = []int{0} }, api.ErrClash},
		{"implies", func(h *api.House) { h.Patterns[0].Implies = []int{2, 1} }, api.ErrOrder},
		{"next name", func(h *api.House) { h.Patterns[2].Name = h.Patterns[1].Name }, api.ErrExists},
		{"next closed", func(h *api.House) { h.Patterns[2].Closed = 1001 }, api.ErrRange},
		{"minor", func(h *api.House) { h.Minor = []api.Node{{Op: api.OpNot}} }, api.ErrShort},
		{"least", func(h *api.House) { h.Least = 1001 }, api.ErrRange},
	}
	return slices.Concat(steps, scaleSteps(), paySteps(), []step{
		{"play", func(h *api.House) { h.Play.Time = 0 }, api.ErrRange},
		{"indicators", func(h *api.House) { h.Play.Indicators, h.Set.Dead = 5, 9 }, api.ErrShort},
	})
}

// TestCheckHouse (P4.1): each error of a house, and which one comes first.
func TestCheckHouse(t *testing.T) {
	checkSteps(t, house.CheckHouse, houseSteps())
	bounds(t, "Closed", house.CheckHouse, func(h *api.House) *int { return &h.Patterns[1].Closed }, 0, 1000, api.ErrRange)
	bounds(t, "Open", house.CheckHouse, func(h *api.House) *int { return &h.Patterns[1].Open }, 0, 1000, api.ErrRange)
	bounds(t, "Least", house.CheckHouse, func(h *api.House) *int { return &h.Least }, 0, 1000, api.ErrRange)
	for _, s := range wrongSets() {
		h := full()
		h.Set, h.Forms = s, nil
		if e := house.CheckHouse(h); e == api.OK || e != tile.Check(s) {
			t.Error(e)
		}
	}
	for _, l := range [][]api.Form{nil, {{What: 7}}, {{What: 1, Again: true}}, {{What: 1}, {What: 5}}, make([]api.Form, 9)} {
		h := full()
		h.Forms, h.Patterns = l, make([]api.Pattern, 41)
		if e := house.CheckHouse(h); e == api.OK || e != shape.CheckForms(h.Set, l) {
			t.Error(e)
		}
	}
	x := shown()
	x.Minor = []api.Node{{Op: api.OpSelf}}
	if e := house.CheckHouse(x); e != api.ErrType {
		t.Error(e)
	}
	x.Minor = []api.Node{}
	if e := house.CheckHouse(x); e != api.OK {
		t.Error(e)
	}
}

// TestPatterns (P4.1): names, and the numbers of other patterns.
func TestPatterns(t *testing.T) {
	many := func(n int) []api.Pattern {
		var l []api.Pattern
		for i := range n {
			l = append(l, api.Pattern{Name: "p" + strings.Repeat("-", i%20) + string(rune('a'+i/20))})
		}
		return l
	}
	named := func(names ...string) []api.Pattern {
		var l []api.Pattern
		for _, n := range names {
			l = append(l, api.Pattern{Name: n})
		}
		return l
	}
	others := func(own int, excludes, implies []int) []api.Pattern {
		l := many(15)
		l[own].Excludes, l[own].Implies = excludes, implies
		return l
	}
	ten := []int{1, 2, 3, 4, 5, 6, 7, 8, 9, 10}
	for i, c := range []struct {
		l    []api.Pattern
		want api.Errno
	}{
		{nil, api.OK}, {many(40), api.OK}, {many(41), api.ErrFull}, {named("a", "z", "0", "9", "-", "a-z0-9"), api.OK}, {named(""), api.ErrForm}, {named("A"), api.ErrForm}, {named("a b"), api.ErrForm}, {named("a_"), api.ErrForm}, {named("a\n"), api.ErrForm},
		{named("a/"), api.ErrForm}, {named("a:"), api.ErrForm}, {named("a`"), api.ErrForm}, {named("a{"), api.ErrForm}, {named("a,"), api.ErrForm}, {named("a."), api.ErrForm}, {named("ä"), api.ErrForm}, {named("a\x00"), api.ErrForm}, {named("Zebra"), api.ErrForm},
		{named(strings.Repeat("z", 24)), api.OK}, {named(strings.Repeat("z", 25)), api.ErrForm}, {named("a", "b", "a"), api.ErrExists}, {named("a", "b", "b"), api.ErrExists}, {named("a", "", "a"), api.ErrForm}, {named("a", "a", ""), api.ErrExists}, {named("", ""), api.ErrForm},
		{others(0, ten, ten), api.OK}, {others(0, append(slices.Clone(ten), 11), nil), api.ErrFull}, {others(0, nil, append(slices.Clone(ten), 11)), api.ErrFull}, {others(0, make([]int, 11), []int{0}), api.ErrFull}, {others(14, []int{0, 13}, []int{0, 13}), api.OK},
		{others(2, []int{15}, nil), api.ErrRange}, {others(2, []int{-1}, nil), api.ErrRange}, {others(2, []int{2}, nil), api.ErrClash}, {others(2, []int{3, 3}, nil), api.ErrOrder}, {others(2, []int{3, 1}, nil), api.ErrOrder}, {others(2, []int{3, 2}, nil), api.ErrClash}, {others(2, []int{3, 2, 15}, nil), api.ErrClash}, {others(2, []int{3, 1, 15}, nil), api.ErrOrder},
		{others(2, nil, []int{15}), api.ErrRange}, {others(2, nil, []int{math.MinInt}), api.ErrRange}, {others(2, nil, []int{2}), api.ErrClash}, {others(2, nil, []int{3, 3}), api.ErrOrder}, {others(2, []int{2}, []int{15}), api.ErrClash}, {others(2, []int{3}, []int{3}), api.OK}, {others(14, []int{14}, nil), api.ErrClash}, {others(0, []int{0}, nil), api.ErrClash},
	} {
		h := bare(small(), api.Form{What: 1})
		h.Patterns = c.l
		if e := house.CheckHouse(h); e != c.want {
			t.Errorf("%d: %v instead of %v", i, e, c.want)
		}
	}
}

// TestCheckWin (P4.1): each error of a win, and which one comes first.
func TestCheckWin(t *testing.T) {
	h := bare(uneven(), api.Form{What: 1})
	x := api.Hand{Bag: bag(uneven(), 0, 1, 2, 3, 3, 3, 5, 5, 12, 12, 12)}
	ok := api.Win{Kind: 3, Seat: 2, Round: 2, Flags: []int{1, 2, 3, 4, 5, 6, 7}, Bonus: 1000}
	if e := house.CheckWin(h, x, ok); e != api.OK {
		t.Fatal(e)
	}
	if e := house.CheckWin(h, x, api.Win{Self: true}); e != api.OK {
		t.Fatal(e)
	}
	type change struct {
		f    func(*api.House, *api.Hand, *api.Win)
		want api.Errno
	}
	win := func(f func(*api.Win), want api.Errno) change {
		return change{func(_ *api.House, _ *api.Hand, w *api.Win) { f(w) }, want}
	}
	changes := []change{
		{func(h *api.House, _ *api.Hand, _ *api.Win) { h.Play.Foul = 0 }, api.ErrRange},
		{func(_ *api.House, x *api.Hand, _ *api.Win) { x.Melds = []api.Group{group(api.Pung, 0)} }, api.ErrForm},
		{func(_ *api.House, x *api.Hand, _ *api.Win) { x.Bag[12]-- }, api.ErrState},
		win(func(w *api.Win) { w.Kind = 14 }, api.ErrRange), win(func(w *api.Win) { w.Kind = -1 }, api.ErrRange), win(func(w *api.Win) { w.Kind = math.MaxInt }, api.ErrRange), win(func(w *api.Win) { w.Kind = 4 }, api.ErrMissing),
		win(func(w *api.Win) { w.Seat = 3 }, api.ErrRange), win(func(w *api.Win) { w.Seat = -1 }, api.ErrRange), win(func(w *api.Win) { w.Round = 3 }, api.ErrRange), win(func(w *api.Win) { w.Round = -1 }, api.ErrRange),
		win(func(w *api.Win) { w.Flags = []int{0} }, api.ErrRange), win(func(w *api.Win) { w.Flags = []int{8} }, api.ErrRange), win(func(w *api.Win) { w.Flags = []int{2, 2, 9} }, api.ErrOrder), win(func(w *api.Win) { w.Flags = []int{3, 2} }, api.ErrOrder), win(func(w *api.Win) { w.Flags = []int{3, 9, 2} }, api.ErrRange),
		win(func(w *api.Win) { w.Bonus = -1 }, api.ErrRange), win(func(w *api.Win) { w.Bonus = 1001 }, api.ErrRange),
	}
	for i, a := range changes {
		for j, b := range changes[i:] {
			h, x, w := house.CopyHouse(h), shape.Copy(x), ok
			if j > 0 {
				b.f(&h, &x, &w)
			}
			a.f(&h, &x, &w)
			if e := house.CheckWin(h, x, w); e != a.want {
				t.Errorf("%d with %d: %v instead of %v", i, i+j, e, a.want)
			}
		}
	}
	if e := house.CheckWin(bare(big(), api.Form{What: 1}), api.Hand{Bag: bag(big(), 0, 0, 0, 1, 1, 1, 2, 2, 2, 3, 3, 3, 4, 4)}, api.Win{Seat: 3, Round: 3}); e != api.OK {
		t.Error(e)
	}
}

// TestNotValid (P4.1, P4.2): the set's error comes first in every check, and without a valid house nothing has a value.
func TestNotValid(t *testing.T) {
	x, r, w := api.Hand{Bag: []int{2, 0, 0, 3}}, api.Reading{Groups: []api.Group{group(api.Pung, 3), group(api.Pair, 0)}}, api.Win{Kind: 3, Self: true}
	for i, s := range wrongSets() {
		want := tile.Check(s)
		if n, e := house.CheckCond(s, []api.Node{{}}); n || e != want {
			t.Error(i, e)
		}
		if _, e := house.CheckCond(s, nil); e != want {
			t.Error(i, e)
		}
		if a, b := house.CheckPay(s, api.Pay{}), house.CheckPlay(s, api.Play{}); a != want || b != want {
			t.Error(i, a, b)
		}
		h := shown()
		h.Set = s
		if e := house.CheckWin(h, api.Hand{}, api.Win{}); e != want {
			t.Error(i, e)
		}
		if text, e := house.Text(h); text != "" || e != want {
			t.Error(i, text, e)
		}
	}
	for _, s := range houseSteps() {
		h := full()
		s.change(&h)
		if text, e := house.Text(h); text != "" || e != s.want {
			t.Error(s.name, text, e)
		}
		if e := house.CheckWin(h, api.Hand{}, api.Win{}); e != s.want {
			t.Error(s.name, e)
		}
	}
	h := shown()
	h.Play.Time = 0
	if house.Value(h, nil, x, r, w) != 0 || house.Value(shown(), nil, x, r, w) != 1 {
		t.Error("the value of a house that is not valid")
	}
	if len(house.Holding(h, x, r, w)) != 0 || house.Minor(h, x, r, w) != 0 {
		t.Error("what holds in a house that is not valid")
	}
}

// TestAnyArguments (P1, R5): no function panics, however great or small the numbers are.
func TestAnyArguments(t *testing.T) {
	numbers := []int{math.MinInt, math.MinInt + 1, -7, -1, 0, 1, 2, 3, 4, 5, 9, 24, 25, 31, 32, 34, 1000, 1000001, math.MaxInt - 1, math.MaxInt}
	for _, s := range append(sets(), wrongSets()...) {
		for _, n := range numbers {
			noPanic(t, "a function of houses", func() { callAll(s, n) })
		}
	}
	noPanic(t, "Parse", func() {
		for _, text := range []string{"", "\n", " ", "set", "set\n", "\x00\xff\n", strings.Repeat("\n", 100000), strings.Repeat(" ", 100000), strings.Repeat("a", 200000)} {
			if h, _, e := house.Parse(text); e == api.OK || !house.SameHouse(h, api.House{}) {
				t.Errorf("%.20q can be read", text)
			}
		}
	})
}

// callAll calls all functions with a set, and a number in the place of each other number.
func callAll(s api.Set, n int) {
	l := []int{n, n, 0}
	node := api.Node{Op: n, What: n, N: n, M: n, Open: n, All: true, Kinds: l}
	houses := []api.House{
		{},
		{Set: s, Forms: []api.Form{{What: n, Kinds: l}}},
		{
			Set: s, Forms: []api.Form{{What: 1}}, Patterns: []api.Pattern{{Name: "a", Closed: n, Open: n, Cond: []api.Node{node}, Excludes: l, Implies: l}}, Minor: []api.Node{node}, Least: n,
			Scale: api.Scale{Base: n, Round: n, Limits: []api.Limit{{From: n, Points: n}, {}}},
			Pay:   api.Pay{Mode: n, Basic: n, Counter: n, Stick: n, Pool: n, Foul: n, Start: n, Rounds: n, Stay: n, Places: l, Feeds: []api.Feed{{Kinds: l, Many: n}}},
			Play:  api.Play{Heads: n, Last: n, Rob: n, Kongs: n, Nines: n, Time: n, Foul: n, Indicators: n},
		},
		bare(s, api.Form{What: 1}),
		bare(s, formsOrNone(s)...),
	}
	for _, h := range houses {
		house.CheckScale(h.Scale)
		house.CheckPay(s, h.Pay)
		house.CheckPlay(s, h.Play)
		house.CheckHouse(h)
		house.Text(h)
		house.SameHouse(h, houses[1])
		house.CopyHouse(h)
		for _, x := range []api.Hand{{}, {Bag: l}, {Bag: []int{2, 0, 0, 3}}, {Bag: []int{2, 0, 0, 0}, Melds: []api.Group{open(api.Pung, n)}}, {Bag: []int{2, 0, 0, 0}, Melds: []api.Group{open(n, 3)}}} {
			for _, r := range []api.Reading{{}, {Form: n, Last: n}, {Form: n, Groups: []api.Group{group(2, 3), group(4, 0)}, Last: 0}, {Groups: []api.Group{group(2, 3), group(4, 0)}, Last: n}, {Groups: []api.Group{group(n, n), group(4, n)}}} {
				for _, w := range []api.Win{{}, {Kind: n}, {Kind: 3}, {Kind: 3, Seat: n}, {Round: n}, {Flags: l}, {Bonus: n}} {
					house.CheckWin(h, x, w)
					house.Value(h, []api.Node{node}, x, r, w)
					house.Holding(h, x, r, w)
					house.Minor(h, x, r, w)
				}
			}
		}
	}
	for op := range 26 {
		node.Op = op
		house.CheckCond(s, []api.Node{node, node})
		house.CheckCond(s, []api.Node{{Op: op, What: 1, N: n, Kinds: l}})
		house.CheckCond(s, []api.Node{{Op: op}, {Op: n}, {Op: op, N: n}})
	}
}

func formsOrNone(s api.Set) []api.Form {
	if tile.Check(s) != api.OK {
		return nil
	}
	return formsFor(s)
}

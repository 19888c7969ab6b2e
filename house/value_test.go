package house_test

import (
	"slices"
	"testing"

	"sparrow/api"
	"sparrow/house"
	"sparrow/shape"
)

// read is a win with the kind w of a hand with concealed groups and declared melds, for forms of a set: the reading whose Last is the first group with this What.
func read(t *testing.T, s api.Set, forms []api.Form, what, w int, melds []api.Group, concealed ...api.Group) place {
	t.Helper()
	x := api.Hand{Bag: bag(s), Melds: melds}
	for _, g := range concealed {
		for _, k := range shape.Tiles(s, g) {
			x.Bag[k]++
		}
	}
	h := bare(s, forms...)
	for _, r := range shape.Readings(s, forms, x, w) {
		if r.Groups[r.Last].What == what && slices.Equal(r.Groups, slices.Concat(melds, concealed)) {
			return place{h, x, r, api.Win{Kind: w}}
		}
	}
	t.Fatal("there is no such reading:", x, w)
	return place{}
}

func melds() []api.Form { return []api.Form{{What: api.FormMelds}} }

// check checks the value of a condition.
func (p place) check(t *testing.T, want int, l ...api.Node) {
	t.Helper()
	if got := p.value(l...); got != want {
		t.Errorf("%v is %d instead of %d", l, got, want)
	}
}

func last(what, n int) api.Node { return api.Node{Op: api.OpLast, What: what, N: n} }

// TestLast (P4.2): what the last group is, and how its chow was won, in suits of all lengths.
func TestLast(t *testing.T) {
	pair, dragons := group(api.Pair, 30), []api.Group{open(api.Pung, 31), open(api.Pung, 32), open(api.Pung, 33)}
	for i, c := range []struct{ chow, kind, how int }{
		{0, 0, 3}, {0, 1, 1}, {0, 2, 2}, {6, 6, 2}, {6, 7, 1}, {6, 8, 3}, {3, 3, 3}, {3, 4, 1}, {3, 5, 3}, {9, 11, 2}, {15, 15, 2}, {15, 17, 3}, {24, 24, 2}, {18, 20, 2}, {10, 12, 3}, {18, 18, 3}, {23, 23, 3}, {23, 25, 3},
	} {
		p := read(t, big(), melds(), api.Chow, c.kind, dragons, group(api.Chow, c.chow), pair)
		for n := range 4 {
			if got := p.value(last(1, n)); got != one(n == 0 || n == c.how) {
				t.Error(i, n, got)
			}
			if p.value(last(31, n)) != p.value(last(1, n)) || p.value(last(30, n)) != 0 {
				t.Error(i, n, "What")
			}
		}
	}
	// In a suit of three ranks a chow is won at both edges, and never at an end.
	for kind, how := range []int{2, 1, 2} {
		p := read(t, small(), melds(), api.Chow, kind, nil, group(api.Chow, 0), group(api.Pair, 3))
		if p.value(last(1, how)) != 1 || p.value(last(1, 3)) != 0 || p.value(last(1, 3-how)) != 0 {
			t.Error(kind)
		}
	}
	// Other groups are not won in any of the three ways; What is a sum.
	for i, what := range []int{2, 8} {
		p := read(t, small(), melds(), []int{api.Pung, api.Pair}[i], []int{3, 0}[i], nil, group(api.Pung, 3), group(api.Pair, 0))
		if p.value(last(what, 0)) != 1 || p.value(last(31-what, 0)) != 0 || p.value(last(what|1, 0)) != 1 || p.value(last(31, 1))+p.value(last(31, 2))+p.value(last(31, 3)) != 0 {
			t.Error(what)
		}
	}
	p := read(t, big(), []api.Form{{What: api.FormMelds}, {What: api.FormKnitted}}, api.Single, 27, nil, singles(0, 3, 6, 10, 13, 16, 20, 23, 26, 27, 28, 29, 30, 31)...)
	p.check(t, 1, last(16, 0))
	p.check(t, 0, last(15, 0))
	p.check(t, 0, last(31, 2))
}

func singles(kinds ...int) []api.Group {
	var l []api.Group
	for _, k := range kinds {
		l = append(l, group(api.Single, k))
	}
	return l
}

// mixed is a win in which each sort of meld is there: the chows 0 (open) and 9, a closed kong of 27, an open pung of 33, the pair 8.
func mixed(t *testing.T) place {
	return read(t, big(), melds(), api.Pair, 8, []api.Group{open(api.Chow, 0), group(api.Kong, 27), open(api.Pung, 33)}, group(api.Chow, 9), group(api.Pair, 8))
}

func groups(what, only int, all bool, kinds ...int) api.Node {
	return api.Node{Op: api.OpGroups, What: what, Open: only, All: all, Kinds: kinds}
}

// TestGroups (P4.2): groups by What, Open and Kinds, with all of their tiles or one of them.
func TestGroups(t *testing.T) {
	p := mixed(t)
	for i, c := range []struct {
		n    api.Node
		want int
	}{
		{groups(31, 0, false), 5}, {groups(31, 0, true), 5}, {groups(1, 0, false), 2}, {groups(2, 0, false), 1}, {groups(4, 0, false), 1}, {groups(8, 0, false), 1}, {groups(16, 0, false), 0}, {groups(7, 0, true), 4}, {groups(6, 0, false), 2},
		{groups(31, 1, false), 2}, {groups(31, 2, false), 3}, {groups(1, 1, false), 1}, {groups(1, 2, false), 1}, {groups(4, 1, false), 0}, {groups(4, 2, true), 1}, {groups(2, 2, false), 0},
		{groups(31, 0, false, 1), 1}, {groups(31, 0, true, 1), 0}, {groups(31, 0, true, 0, 1), 0}, {groups(31, 0, true, 0, 1, 2), 1}, {groups(31, 0, false, 0, 1, 2), 1}, {groups(31, 0, false, 2, 9, 27, 33), 4}, {groups(31, 0, true, 2, 9, 27, 33), 2}, {groups(31, 0, true, 8), 1},
		{groups(1, 2, false, 0, 1, 2), 0}, {groups(1, 2, true, 9, 10, 11, 12), 1}, {groups(31, 1, false, 0, 27, 33), 2}, {groups(31, 0, false, 3, 28), 0}, {groups(2, 0, true, 27), 0}, {groups(4, 0, true, 27), 1},
	} {
		if got := p.value(c.n); got != c.want {
			t.Error(i, got)
		}
	}
}

// TestTiles (P4.2): a kong counts with all four tiles.
func TestTiles(t *testing.T) {
	p := mixed(t)
	for i, c := range []struct {
		kinds []int
		want  int
	}{
		{nil, 15}, {[]int{0}, 1}, {[]int{8}, 2}, {[]int{27}, 4}, {[]int{33}, 3}, {[]int{0, 1, 2, 9}, 4}, {[]int{3, 12, 28}, 0}, {[]int{8, 27, 33}, 9},
	} {
		p.check(t, c.want, api.Node{Op: api.OpTiles, Kinds: c.kinds})
		if t.Failed() {
			t.Fatal(i)
		}
	}
}

// TestClosed (P4.2): a closed kong leaves the reading closed, any open meld does not.
func TestClosed(t *testing.T) {
	closed, pair := api.Node{Op: api.OpClosed}, group(api.Pair, 0)
	read(t, small(), melds(), api.Pair, 0, []api.Group{group(api.Kong, 3)}, pair).check(t, 1, closed)
	read(t, small(), melds(), api.Pair, 0, []api.Group{open(api.Kong, 3)}, pair).check(t, 0, closed)
	read(t, small(), melds(), api.Pair, 0, []api.Group{open(api.Pung, 3)}, pair).check(t, 0, closed)
	read(t, small(), melds(), api.Pair, 0, nil, group(api.Pung, 3), pair).check(t, 1, closed)
	read(t, small(), melds(), api.Pair, 3, []api.Group{open(api.Chow, 0)}, group(api.Pair, 3)).check(t, 0, closed)
}

// TestWinNodes (P4.2): what a win says itself, and by which form it is read.
func TestWinNodes(t *testing.T) {
	p := mixed(t)
	p.w = api.Win{Kind: 8, Self: true, Flags: []int{2, 4, 7}, Bonus: 1000}
	for f := 1; f <= 7; f++ {
		p.check(t, one(f == 2 || f == 4 || f == 7), api.Node{Op: api.OpFlag, N: f})
	}
	p.check(t, 1, api.Node{Op: api.OpSelf})
	p.check(t, 1000, api.Node{Op: api.OpBonus})
	p.w = api.Win{Kind: 8}
	p.check(t, 0, api.Node{Op: api.OpSelf})
	p.check(t, 0, api.Node{Op: api.OpBonus})
	p.check(t, 0, api.Node{Op: api.OpFlag, N: 1})
	forms := []api.Form{{What: api.FormKnitted}, {What: api.FormPairs}, {What: api.FormMelds}}
	concealed := []api.Group{group(api.Chow, 0), group(api.Chow, 0), group(api.Chow, 9), group(api.Chow, 9), group(api.Pair, 33)}
	pairs := []api.Group{group(4, 0), group(4, 1), group(4, 2), group(4, 9), group(4, 10), group(4, 11), group(4, 33)}
	for f := 1; f <= 6; f++ {
		read(t, big(), forms, api.Pair, 33, nil, concealed...).check(t, one(f == api.FormMelds), api.Node{Op: api.OpForm, N: f})
		read(t, big(), forms, api.Pair, 33, nil, pairs...).check(t, one(f == api.FormPairs), api.Node{Op: api.OpForm, N: f})
	}
}

// TestWind (P4.2): the winds of the seat and of the round, and seats for which there is no wind.
func TestWind(t *testing.T) {
	seat, round := func(what int) api.Node { return api.Node{Op: api.OpWind, What: what, N: 1} }, func(what int) api.Node { return api.Node{Op: api.OpWind, What: what, N: 2} }
	p := mixed(t)
	p.w.Round = 1
	for what, want := range map[int]int{31: 1, 4: 1, 3: 0, 2: 0, 27: 0, 12: 1} {
		p.check(t, want, seat(what))
		p.check(t, 0, round(what))
	}
	p.w.Seat, p.w.Round = 3, 0
	p.check(t, 0, seat(31))
	p.check(t, 1, round(31))
	both := read(t, big(), melds(), api.Chow, 0, []api.Group{open(api.Pung, 28), open(api.Kong, 30)}, group(api.Chow, 0), group(api.Pung, 27), group(api.Pair, 29))
	for wind, what := range []int{api.Pung, api.Pung, api.Pair, api.Kong} {
		both.w.Seat, both.w.Round = wind, (wind+1)%4
		for w := range 5 {
			both.check(t, one(w+1 == what), seat(1<<w))
		}
		both.w.Seat, both.w.Round = (wind+1)%4, wind
		both.check(t, one(what == api.Pung), round(2))
		both.check(t, 1, round(31))
	}
	// The set uneven has two winds, 12 and 13, for three players, and nothing behind them.
	few := read(t, uneven(), melds(), api.Pair, 13, nil, group(api.Chow, 0), group(api.Pung, 4), group(api.Pung, 12), group(api.Pair, 13))
	for wind, want := range []int{1, 1, 0} {
		few.w.Seat, few.w.Round = wind, wind
		few.check(t, want, seat(31))
		few.check(t, want, round(31))
	}
	// In a set without winds the first dragon is none.
	none := read(t, small(), melds(), api.Pung, 3, nil, group(api.Pung, 3), group(api.Pair, 0))
	none.check(t, 0, seat(31))
	none.check(t, 0, round(31))
}

// TestTwins (P4.2): pairs of equal chows, all or concealed ones.
func TestTwins(t *testing.T) {
	all, closed := api.Node{Op: api.OpTwins, N: 1}, api.Node{Op: api.OpTwins, N: 2}
	chow, pair := func(k int) api.Group { return group(api.Chow, k) }, group(api.Pair, 33)
	for i, c := range []struct {
		declared, concealed []api.Group
		all, closed         int
	}{
		{nil, []api.Group{chow(0), chow(0), chow(0), chow(0)}, 2, 2}, {nil, []api.Group{chow(0), chow(0), chow(0), chow(9)}, 1, 1}, {nil, []api.Group{chow(0), chow(0), chow(9), chow(9)}, 2, 2}, {nil, []api.Group{chow(0), chow(1), chow(9), chow(18)}, 0, 0},
		{[]api.Group{open(1, 0)}, []api.Group{chow(0), chow(9), chow(9)}, 2, 1}, {[]api.Group{open(1, 0), open(1, 0)}, []api.Group{chow(9), chow(9)}, 2, 1}, {[]api.Group{open(1, 0), open(1, 0)}, []api.Group{chow(0), chow(0)}, 2, 1}, {[]api.Group{open(1, 0)}, []api.Group{chow(0), chow(0), chow(0)}, 2, 1}, {[]api.Group{open(1, 9), open(1, 0)}, []api.Group{chow(0), chow(9)}, 2, 0},
		{[]api.Group{open(2, 0)}, []api.Group{chow(3), chow(3), group(2, 9)}, 1, 1},
	} {
		p := read(t, big(), melds(), api.Pair, 33, c.declared, append(c.concealed, pair)...)
		if a, b := p.value(all), p.value(closed); a != c.all || b != c.closed {
			t.Error(i, a, b)
		}
	}
}

func row(what, n, m int) api.Node { return api.Node{Op: api.OpRow, What: what, N: n, M: m} }

func colours(what, n, m int) api.Node { return api.Node{Op: api.OpColours, What: what, N: n, M: m} }

// TestRows (P4.2): rows within a suit; they do not lead from one suit into the next one.
func TestRows(t *testing.T) {
	pungs := func(kinds ...int) place {
		var l []api.Group
		for _, k := range kinds {
			l = append(l, open(api.Pung, k))
		}
		return read(t, big(), melds(), api.Pair, 33, l, group(api.Pair, 33))
	}
	for i, c := range []struct {
		p    place
		n    api.Node
		want int
	}{
		{pungs(0, 1, 2, 3), row(2, 2, 1), 3}, {pungs(0, 1, 2, 3), row(2, 3, 1), 2}, {pungs(0, 1, 2, 3), row(2, 4, 1), 1}, {pungs(0, 1, 2, 3), row(2, 2, 2), 2}, {pungs(0, 1, 2, 3), row(2, 2, 3), 1}, {pungs(0, 1, 2, 3), row(2, 3, 2), 0}, {pungs(0, 1, 2, 3), row(29, 2, 1), 0}, {pungs(3, 1, 0, 2), row(2, 4, 1), 1},
		{pungs(7, 8, 9, 10), row(2, 2, 1), 2}, {pungs(7, 8, 9, 10), row(2, 3, 1), 0}, {pungs(8, 9, 17, 18), row(2, 2, 1), 0}, {pungs(6, 9, 12, 15), row(2, 3, 3), 1}, {pungs(6, 9, 12, 15), row(2, 4, 3), 0}, {pungs(0, 3, 6, 9), row(2, 4, 3), 0}, {pungs(0, 3, 6, 9), row(2, 3, 3), 1},
		{pungs(20, 22, 24, 26), row(2, 4, 2), 1}, {pungs(20, 22, 24, 26), row(2, 2, 2), 3}, {pungs(26, 27, 28, 29), row(2, 2, 1), 0}, {pungs(27, 28, 29, 30), row(2, 2, 1), 0}, {pungs(5, 6, 7, 8), row(2, 3, 1), 2}, {pungs(0, 9, 18, 33-1), row(2, 2, 3), 0},
	} {
		if got := c.p.value(c.n); got != c.want {
			t.Error(i, got)
		}
	}
	// A kind counts once, however many groups have it, and of a chow only its first one does.
	p := read(t, big(), melds(), api.Pair, 33, []api.Group{open(1, 0), open(1, 0)}, group(1, 3), group(2, 6), group(4, 33))
	for i, c := range []struct {
		n    api.Node
		want int
	}{
		{row(1, 2, 3), 1}, {row(1, 2, 1), 0}, {row(1, 2, 2), 0}, {row(3, 3, 3), 1}, {row(3, 2, 3), 2}, {row(2, 2, 3), 0}, {row(1, 3, 3), 0}, {row(31, 3, 3), 1},
	} {
		if got := p.value(c.n); got != c.want {
			t.Error(i, got)
		}
	}
	straight := []api.Form{{What: api.FormStraight}}
	q := read(t, big(), straight, api.Single, 0, nil, append([]api.Group{group(2, 31), group(4, 33)}, singles(0, 3, 6, 10, 13, 16, 20, 23, 26)...)...)
	q.check(t, 3, row(16, 3, 3))
	q.check(t, 6, row(16, 2, 3))
	q.check(t, 0, row(15, 2, 3))
	q.check(t, 7, colours(16, 3, 1))
	q.check(t, 0, colours(16, 2, 0))
}

// TestColours (P4.2): ranks in different suits, in any order of the suits, also of suits with other lengths.
func TestColours(t *testing.T) {
	pungs := func(kinds ...int) place {
		var l []api.Group
		for _, k := range kinds {
			l = append(l, open(api.Pung, k))
		}
		return read(t, big(), melds(), api.Pair, 33, l, group(api.Pair, 33))
	}
	for i, c := range []struct {
		p    place
		n    api.Node
		want int
	}{
		{pungs(0, 9, 18, 1), colours(2, 3, 0), 1}, {pungs(0, 9, 18, 1), colours(2, 2, 0), 1}, {pungs(0, 9, 18, 1), colours(2, 2, 1), 1}, {pungs(0, 9, 18, 1), colours(2, 3, 1), 0}, {pungs(0, 9, 18, 1), colours(4, 2, 0), 0}, {pungs(0, 9, 1, 10), colours(2, 2, 0), 2}, {pungs(0, 9, 1, 10), colours(2, 3, 0), 0}, {pungs(0, 9, 1, 10), colours(2, 2, 1), 1},
		{pungs(18, 10, 2, 30), colours(2, 3, 1), 1}, {pungs(18, 1, 11, 30), colours(2, 3, 1), 1}, {pungs(9, 1, 20, 30), colours(2, 3, 1), 1}, {pungs(9, 19, 2, 30), colours(2, 3, 1), 1}, {pungs(0, 10, 20, 30), colours(2, 3, 1), 1}, {pungs(0, 19, 11, 30), colours(2, 3, 1), 1},
		{pungs(0, 10, 20, 30), colours(2, 2, 1), 2}, {pungs(0, 10, 20, 30), colours(2, 2, 2), 1}, {pungs(0, 11, 22, 30), colours(2, 3, 2), 1}, {pungs(0, 11, 22, 30), colours(2, 3, 1), 0}, {pungs(0, 1, 2, 30), colours(2, 2, 1), 0}, {pungs(0, 1, 11, 30), colours(2, 3, 1), 0}, {pungs(0, 1, 11, 30), colours(2, 2, 1), 1},
		{pungs(8, 17, 26, 30), colours(2, 3, 0), 1}, {pungs(8, 17, 26, 30), colours(2, 2, 1), 0}, {pungs(7, 17, 27, 28), colours(2, 2, 1), 1}, {pungs(27, 28, 29, 30), colours(2, 2, 0), 0}, {pungs(27, 28, 29, 30), colours(2, 2, 1), 0}, {pungs(6, 17, 25, 31), colours(2, 3, 1), 1}, {pungs(8, 9, 18, 30), colours(2, 2, 1), 0},
	} {
		if got := c.p.value(c.n); got != c.want {
			t.Error(i, got)
		}
	}
	p := read(t, uneven(), melds(), api.Pair, 13, []api.Group{open(1, 0), open(1, 3), open(1, 8)}, group(4, 13))
	p.check(t, 1, colours(1, 3, 0))
	q := read(t, uneven(), melds(), api.Pair, 6, []api.Group{open(2, 2), open(2, 11), open(2, 12)}, group(4, 6))
	q.check(t, 1, colours(31, 2, 0))
	q.check(t, 0, colours(2, 2, 0))
	q.check(t, 1, colours(10, 2, 1))
	q.check(t, 0, colours(2, 3, 1))
}

// TestSuits (P4.2): how many suits have a tile.
func TestSuits(t *testing.T) {
	suits := api.Node{Op: api.OpSuits}
	for i, c := range []struct {
		kinds [3]int
		pair  int
		want  int
	}{
		{[3]int{27, 28, 31}, 33, 0}, {[3]int{27, 28, 31}, 8, 1}, {[3]int{0, 8, 31}, 33, 1}, {[3]int{0, 9, 31}, 33, 2}, {[3]int{0, 9, 31}, 9 + 8, 2}, {[3]int{0, 9, 31}, 26, 3}, {[3]int{0, 9, 18}, 1, 3}, {[3]int{26, 27, 31}, 33, 1},
	} {
		p := read(t, big(), melds(), api.Pair, c.pair, []api.Group{open(2, c.kinds[0]), open(2, c.kinds[1]), group(3, c.kinds[2])}, group(2, 32), group(4, c.pair))
		if got := p.value(suits); got != c.want {
			t.Error(i, got)
		}
	}
}

// TestWaits (P4.2): the kinds for which the hand waited, by all forms of the house.
func TestWaits(t *testing.T) {
	waits := api.Node{Op: api.OpWaits}
	for i, c := range []struct {
		p    place
		want int
	}{
		{read(t, small(), melds(), api.Pung, 3, nil, group(2, 3), group(4, 0)), 2}, {read(t, small(), melds(), api.Pair, 3, nil, group(1, 0), group(4, 3)), 1}, {read(t, small(), melds(), api.Pair, 0, []api.Group{open(2, 3)}, group(4, 0)), 1}, {read(t, small(), melds(), api.Chow, 1, nil, group(1, 0), group(4, 2)), 2},
		{read(t, small(), []api.Form{{What: 1}, {What: 6, Kinds: []int{1, 2, 2, 2, 3}}}, api.Chow, 1, nil, group(1, 0), group(4, 2)), 2}, {read(t, small(), []api.Form{{What: 1}, {What: 6, Kinds: []int{0, 2, 2, 2, 3}}}, api.Chow, 1, nil, group(1, 0), group(4, 2)), 3},
		{read(t, big(), melds(), api.Pair, 7, nil, group(1, 1), group(1, 4), group(2, 0), group(2, 8), group(4, 7)), 9}, {read(t, big(), melds(), api.Chow, 0, []api.Group{open(2, 31), open(2, 32)}, group(1, 0), group(2, 9), group(4, 18)), 2},
	} {
		if got := c.p.value(waits); got != c.want {
			t.Error(i, got)
		}
	}
}

func num(n int) api.Node { return api.Node{Op: api.OpNumber, N: n} }

// TestNumbers (P4.2, P4.7): sums, products and multiples, none of them above MaxNumber.
func TestNumbers(t *testing.T) {
	p := mixed(t)
	sum, times := api.Node{Op: api.OpSum}, api.Node{Op: api.OpTimes}
	up := func(n int) api.Node { return api.Node{Op: api.OpUp, N: n} }
	for i, c := range []struct {
		want int
		l    []api.Node
	}{
		{7, []api.Node{num(7)}}, {0, []api.Node{num(0)}}, {1000000, []api.Node{num(1000000)}}, {12, []api.Node{sum, num(5), num(7)}}, {35, []api.Node{times, num(5), num(7)}}, {0, []api.Node{times, num(0), num(1000000)}},
		{1000000, []api.Node{sum, num(1000000), num(1000000)}}, {1000000, []api.Node{sum, num(999999), num(1)}}, {999999, []api.Node{sum, num(999998), num(1)}}, {1000000, []api.Node{sum, num(999999), num(2)}}, {1000000, []api.Node{times, num(1000000), num(1000000)}}, {1000000, []api.Node{times, num(1000), num(1000)}}, {999999, []api.Node{times, num(999), num(1001)}}, {1000000, []api.Node{times, num(1001), num(1000)}},
		{20, []api.Node{up(10), num(20)}}, {30, []api.Node{up(10), num(21)}}, {30, []api.Node{up(10), num(29)}}, {0, []api.Node{up(10), num(0)}}, {10, []api.Node{up(10), num(1)}}, {21, []api.Node{up(1), num(21)}}, {1000, []api.Node{up(1000), num(1)}}, {1000000, []api.Node{up(7), num(1000000)}}, {999999, []api.Node{up(7), num(999999)}}, {999999, []api.Node{up(7), num(999998)}}, {1000000, []api.Node{up(999), num(1000000)}},
		{17, []api.Node{sum, num(2), times, num(3), num(5)}}, {25, []api.Node{times, sum, num(2), num(3), num(5)}}, {1000000, []api.Node{times, sum, num(1000000), num(1000000), sum, num(1000000), num(1000000)}}, {0, []api.Node{times, times, num(1000000), num(1000000), num(0)}},
	} {
		if got := p.value(c.l...); got != c.want {
			t.Error(i, got)
		}
	}
}

// TestTruths (P4.2): truths, and numbers that depend on them.
func TestTruths(t *testing.T) {
	p := mixed(t)
	yes, no := api.Node{Op: api.OpTrue}, api.Node{Op: api.OpSelf}
	and, or, not, iff := api.Node{Op: api.OpAnd}, api.Node{Op: api.OpOr}, api.Node{Op: api.OpNot}, api.Node{Op: api.OpIf}
	least := func(n int) api.Node { return api.Node{Op: api.OpLeast, N: n} }
	p.check(t, 1)
	p.check(t, 1, yes)
	p.check(t, 0, no)
	for _, a := range []api.Node{no, yes} {
		for _, b := range []api.Node{no, yes} {
			p.check(t, one(a.Op == 1 && b.Op == 1), and, a, b)
			p.check(t, one(a.Op == 1 || b.Op == 1), or, a, b)
		}
		p.check(t, one(a.Op != 1), not, a)
		p.check(t, map[int]int{1: 3, 8: 4}[a.Op], iff, a, num(3), num(4))
	}
	p.check(t, 1, least(5), num(5))
	p.check(t, 0, least(6), num(5))
	p.check(t, 1, least(0), num(0))
	p.check(t, 1, least(1000000), num(1000000))
}

// TestUnderConditions (P4.2): nothing has a value, holds, or has minor points unless the win, the condition and the reading are right.
func TestUnderConditions(t *testing.T) {
	p := read(t, small(), melds(), api.Pung, 3, nil, group(2, 3), group(4, 0))
	if l := house.Holding(p.h, p.x, p.r, p.w); len(l) != 0 || house.Minor(p.h, p.x, p.r, p.w) != 1 || p.value() != 1 {
		t.Error("a house without patterns and minor points", l)
	}
	p.h.Patterns = []api.Pattern{{Name: "a"}}
	wrong := []place{p, p, p, p, p, p, p, p, p, p}
	wrong[0].w.Kind = 0
	wrong[1].w.Bonus = -1
	wrong[2].w.Kind = 1
	wrong[3].r.Form = 1
	wrong[4].r.Last = 1
	wrong[5].r.Groups = []api.Group{group(4, 0), group(2, 3)}
	wrong[6].r.Groups = []api.Group{open(2, 3), group(4, 0)}
	wrong[7].x = api.Hand{Bag: bag(small(), 0, 0, 3, 3)}
	wrong[8].h.Least = -1
	wrong[9].h.Forms = []api.Form{{What: api.FormKnitted}}
	for i, x := range wrong {
		if l := house.Holding(x.h, x.x, x.r, x.w); len(l) != 0 || house.Minor(x.h, x.x, x.r, x.w) != 0 || x.value() != 0 || x.value(num(5)) != 0 {
			t.Error(i, l)
		}
	}
	for i, l := range [][]api.Node{{{}}, {num(-1)}, {num(5), num(5)}, {{Op: api.OpNot}}, {{Op: api.OpNot}, num(1)}, {{Op: api.OpTiles, Kinds: []int{4}}}, slices.Repeat([]api.Node{{Op: api.OpTrue}}, 61)} {
		if n := p.value(l...); n != 0 {
			t.Error(i, n)
		}
	}
	if l := house.Holding(p.h, p.x, p.r, p.w); !slices.Equal(l, []api.Hold{{Pattern: 0, Times: 1}}) {
		t.Error(l)
	}
}

// TestHolding (P4.2): how often patterns hold, at most MaxValue times; and minor points, at most MaxMinor.
func TestHolding(t *testing.T) {
	p := read(t, small(), melds(), api.Pung, 3, nil, group(2, 3), group(4, 0))
	self := []api.Node{{Op: api.OpSelf}}
	p.h.Patterns = []api.Pattern{{Name: "a", Cond: self}, {Name: "b"}, {Name: "c", Cond: []api.Node{num(0)}}, {Name: "d", Cond: []api.Node{num(1000)}}, {Name: "e", Cond: []api.Node{num(1001)}}, {Name: "f", Cond: []api.Node{{Op: api.OpTiles, Kinds: []int{3}}}}, {Name: "g", Cond: []api.Node{{Op: api.OpNot}, self[0]}, Excludes: []int{1}}, {Name: "h", Cond: []api.Node{num(1000000)}}}
	if l := house.Holding(p.h, p.x, p.r, p.w); !slices.Equal(l, []api.Hold{{Pattern: 1, Times: 1}, {Pattern: 3, Times: 1000}, {Pattern: 4, Times: 1000}, {Pattern: 5, Times: 3}, {Pattern: 6, Times: 1}, {Pattern: 7, Times: 1000}}) {
		t.Error(l)
	}
	for n, want := range map[int]int{0: 0, 1: 1, 30: 30, 999: 999, 1000: 1000, 1001: 1000, 1000000: 1000} {
		p.h.Minor = []api.Node{num(n)}
		if got := house.Minor(p.h, p.x, p.r, p.w); got != want {
			t.Error(n, got)
		}
	}
	if n := p.value(num(1000000)); n != 1000000 {
		t.Error(n)
	}
}

// TestExamples (P4.1, P4.2): the chapter's examples of values.
func TestExamples(t *testing.T) {
	h, x, r, w := shown(), api.Hand{Bag: []int{2, 0, 0, 3}}, api.Reading{Groups: []api.Group{group(2, 3), group(4, 0)}}, api.Win{Kind: 3, Self: true}
	holding := func(x api.Hand, r api.Reading, w api.Win, want ...int) {
		t.Helper()
		var got []int
		for _, hold := range house.Holding(h, x, r, w) {
			if hold.Times != 1 {
				t.Error(hold)
			}
			got = append(got, hold.Pattern)
		}
		if !slices.Equal(got, want) {
			t.Error(got)
		}
	}
	holding(x, r, w, 0, 1, 2)
	holding(x, r, api.Win{Kind: 3}, 0, 1)
	holding(api.Hand{Bag: []int{2, 0, 0, 0}, Melds: []api.Group{open(2, 3)}}, api.Reading{Groups: []api.Group{open(2, 3), group(4, 0)}, Last: 1}, api.Win{Self: true}, 0, 1)
	if n := house.Minor(h, x, r, w); n != 30 {
		t.Error(n)
	}
	p := place{h, x, r, w}
	p.check(t, 1, last(2, 0))
	p.check(t, 5, api.Node{Op: api.OpTiles, Kinds: []int{0, 3}})
	p.check(t, 8, api.Node{Op: api.OpUp, N: 4}, api.Node{Op: api.OpTiles})
	for i, c := range []struct {
		w    api.Win
		want api.Errno
	}{
		{w, api.OK}, {api.Win{Kind: 1}, api.ErrMissing}, {api.Win{Kind: 3, Seat: 3}, api.ErrRange}, {api.Win{Kind: 3, Flags: []int{2, 2}}, api.ErrOrder},
	} {
		if e := house.CheckWin(h, x, c.w); e != c.want {
			t.Error(i, e)
		}
	}
}

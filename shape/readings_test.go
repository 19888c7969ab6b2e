package shape_test

import (
	"math"
	"slices"
	"testing"

	"sparrow/api"
	"sparrow/shape"
	"sparrow/tile"
)

// alone is a list of singles.
func alone(kinds ...int) []api.Group {
	var l []api.Group
	for _, k := range kinds {
		l = append(l, api.Group{What: api.Single, Kind: k})
	}
	return l
}

// read is a reading by the form with the number 0.
func read(last int, groups ...api.Group) api.Reading {
	return api.Reading{Groups: groups, Last: last}
}

// orphans is the form of each orphan of the set big.
func orphans() []api.Form { return form(api.FormEach, tile.Orphans(big())...) }

// TestReadingsOfMelds (P2.4): readings by FormMelds that were found by hand; of equal groups only the first one is Last.
func TestReadingsOfMelds(t *testing.T) {
	three := []int{0, 0, 0, 1, 1, 1, 2, 2, 2, 3, 3, 27, 27, 27}
	for i, c := range []struct {
		s    api.Set
		h    api.Hand
		last int
		want []api.Reading
	}{
		{small(), tiny(1, 1, 3, 0), 2, []api.Reading{read(0, chow(0), pair(2)), read(1, chow(0), pair(2))}}, {small(), tiny(1, 1, 3, 0), 0, []api.Reading{read(0, chow(0), pair(2))}}, {small(), tiny(1, 1, 3, 0), 1, []api.Reading{read(0, chow(0), pair(2))}},
		{small(), tiny(1, 1, 3, 0), 3, nil}, {small(), tiny(1, 1, 3, 0), 4, nil}, {small(), tiny(1, 1, 3, 0), -1, nil}, {small(), tiny(1, 1, 3, 0), math.MaxInt, nil}, {small(), tiny(1, 1, 3, 0), math.MinInt, nil}, {small(), tiny(1, 1, 2, 0), 2, nil}, {small(), tiny(2, 2, 1, 0), 2, nil},
		{small(), tiny(0, 0, 0, 2, open(chow(0))), 3, []api.Reading{read(1, open(chow(0)), pair(3))}}, {small(), tiny(0, 0, 0, 2, open(chow(0))), 0, nil}, {small(), tiny(2, 0, 0, 0, open(chow(0))), 0, []api.Reading{read(1, open(chow(0)), pair(0))}}, {small(), tiny(1, 0, 0, 1, open(chow(0))), 0, nil},
		{small(), tiny(2, 0, 0, 0, kong(3)), 0, []api.Reading{read(1, kong(3), pair(0))}}, {small(), tiny(2, 0, 0, 0, open(kong(3))), 0, []api.Reading{read(1, open(kong(3)), pair(0))}},
		{big(), of(three), 3, []api.Reading{read(4, chow(0), chow(0), chow(0), pung(27), pair(3)), read(1, chow(0), chow(1), chow(1), pung(27), pair(0)), read(4, pung(0), pung(1), pung(2), pung(27), pair(3))}},
		{big(), of(three), 1, []api.Reading{read(0, chow(0), chow(0), chow(0), pung(27), pair(3)), read(0, chow(0), chow(1), chow(1), pung(27), pair(0)), read(1, chow(0), chow(1), chow(1), pung(27), pair(0)), read(1, pung(0), pung(1), pung(2), pung(27), pair(3))}},
		{big(), of(three), 0, []api.Reading{read(0, chow(0), chow(0), chow(0), pung(27), pair(3)), read(0, chow(0), chow(1), chow(1), pung(27), pair(0)), read(4, chow(0), chow(1), chow(1), pung(27), pair(0)), read(0, pung(0), pung(1), pung(2), pung(27), pair(3))}},
		{big(), of(three), 27, []api.Reading{read(3, chow(0), chow(0), chow(0), pung(27), pair(3)), read(3, chow(0), chow(1), chow(1), pung(27), pair(0)), read(3, pung(0), pung(1), pung(2), pung(27), pair(3))}},
		{big(), of([]int{0, 1, 2, 5, 5}, kong(33), open(pung(30)), open(chow(0))), 1, []api.Reading{read(3, kong(33), open(pung(30)), open(chow(0)), chow(0), pair(5))}},
		{big(), of([]int{4, 4}, open(pung(9)), open(chow(2)), kong(8), open(chow(2))), 4, []api.Reading{read(4, open(pung(9)), open(chow(2)), kong(8), open(chow(2)), pair(4))}},
	} {
		if l := shape.Readings(c.s, form(api.FormMelds), c.h, c.last); !sameReadings(l, c.want) {
			t.Error(i, l)
		}
	}
}

// TestReadingsOfPairs (P2.4): different pairs, and equal ones with Again.
func TestReadingsOfPairs(t *testing.T) {
	seven, four := []int{0, 0, 3, 3, 8, 8, 9, 9, 26, 26, 27, 27, 33, 33}, []int{0, 0, 0, 0, 3, 3, 8, 8, 9, 9, 27, 27, 33, 33}
	pairs := []api.Group{pair(0), pair(3), pair(8), pair(9), pair(26), pair(27), pair(33)}
	twice := []api.Group{pair(0), pair(0), pair(3), pair(8), pair(9), pair(27), pair(33)}
	for i, c := range []struct {
		l    []api.Form
		h    api.Hand
		last int
		want []api.Reading
	}{
		{form(2), of(seven), 0, []api.Reading{read(0, pairs...)}}, {form(2), of(seven), 33, []api.Reading{read(6, pairs...)}}, {again(), of(seven), 9, []api.Reading{read(3, pairs...)}}, {form(2), of(seven), 1, nil},
		{form(2), of(four), 0, nil}, {again(), of(four), 0, []api.Reading{read(0, twice...)}}, {again(), of(four), 3, []api.Reading{read(2, twice...)}},
		{again(), of([]int{0, 0, 0, 3, 3, 3, 8, 8, 9, 9, 27, 27, 33, 33}), 0, nil}, {again(), of([]int{0, 0, 0, 0, 3, 3, 8, 8, 9, 9, 27, 27, 28, 33}), 0, nil}, {again(), of(seven[3:], kong(5)), 33, nil}, {again(), of([]int{0, 0}, kong(5), kong(6), kong(7), kong(8)), 0, nil},
		{again(), of([]int{0, 0, 0, 0, 3, 3, 3, 3, 8, 8, 8, 8, 9, 9}), 8, []api.Reading{read(4, pair(0), pair(0), pair(3), pair(3), pair(8), pair(8), pair(9))}},
	} {
		if l := shape.Readings(big(), c.l, c.h, c.last); !sameReadings(l, c.want) {
			t.Error(i, l)
		}
	}
}

// TestReadingsOfEach (P2.4): a pair of one of the kinds, and a single of each other one.
func TestReadingsOfEach(t *testing.T) {
	all := tile.Orphans(big())
	for i, k := range all {
		h := of(append(slices.Clone(all), k))
		groups := append([]api.Group{pair(k)}, alone(slices.Delete(slices.Clone(all), i, i+1)...)...)
		for j, last := range all {
			want := j + 1
			if j == i {
				want = 0
			} else if j > i {
				want = j
			}
			if l := shape.Readings(big(), orphans(), h, last); !sameReadings(l, []api.Reading{read(want, groups...)}) {
				t.Error(k, last, l)
			}
		}
		h.Bag[k]--
		h.Bag[1]++
		if shape.Wins(big(), orphans(), h) {
			t.Error("another kind instead of the second", k)
		}
		h.Bag[k]--
		h.Bag[all[(i+1)%13]]++
		if shape.Wins(big(), orphans(), h) {
			t.Error("a kind is missing", k)
		}
	}
	if l := shape.Readings(small(), form(3, 0, 1, 2, 3), tiny(1, 1, 2, 1), 2); !sameReadings(l, []api.Reading{read(0, append([]api.Group{pair(2)}, alone(0, 1, 3)...)...)}) {
		t.Error(l)
	}
	if shape.Wins(small(), form(3, 0, 1, 2, 3), tiny(0, 0, 2, 0, kong(3))) || shape.Wins(small(), form(3, 0, 1, 2, 3), tiny(2, 1, 2, 0)) || shape.Wins(small(), form(3, 0, 1, 2, 3), tiny(3, 1, 1, 0)) {
		t.Error("a meld, two pairs or three tiles")
	}
}

// TestReadingsOfKnitted (P2.4): one remainder in each suit, another one in another suit.
func TestReadingsOfKnitted(t *testing.T) {
	honours := []int{27, 28, 29, 30, 31, 32, 33}
	for i, c := range []struct {
		kinds []int
		wins  bool
	}{
		{[]int{0, 3, 6, 10, 13, 16, 20}, true}, {[]int{2, 5, 8, 10, 13, 16, 18}, true}, {[]int{1, 4, 7, 9, 12, 15, 20}, true}, {[]int{1, 4, 7, 11, 14, 17, 24}, true}, {[]int{2, 5, 8, 9, 12, 22, 25}, true}, {[]int{0, 3, 6, 11, 14, 17, 22}, true},
		{[]int{0, 3, 6, 9, 13, 16, 20}, false}, {[]int{0, 3, 6, 9, 12, 15, 20}, false}, {[]int{0, 3, 6, 10, 13, 16, 18}, false}, {[]int{0, 3, 6, 10, 13, 16, 19}, false}, {[]int{0, 4, 6, 10, 13, 16, 20}, false}, {[]int{0, 3, 6, 10, 13, 20, 24}, false}, {[]int{0, 3, 6, 10, 13, 16, 16}, false}, {[]int{0, 0, 6, 10, 13, 16, 20}, false},
	} {
		h := of(append(slices.Clone(c.kinds), honours...))
		if shape.Wins(big(), form(4), h) != c.wins {
			t.Error(i)
		}
		groups := alone(append(slices.Clone(c.kinds), honours...)...)
		if l := shape.Readings(big(), form(4), h, 28); c.wins && !sameReadings(l, []api.Reading{read(8, groups...)}) {
			t.Error(i, l)
		}
	}
	if shape.Wins(big(), form(4), of([]int{0, 3, 6, 10, 13, 16, 20, 23, 26, 27, 28}, kong(33))) {
		t.Error("a declared meld")
	}
	s := api.Set{Players: 3, Suits: []int{9, 6}, Winds: 1, Copies: 4, Melds: 1}
	for i, c := range []struct {
		kinds []int
		wins  bool
	}{
		{[]int{1, 4, 9, 12, 15}, true}, {[]int{1, 4, 7, 9, 12}, true}, {[]int{1, 4, 10, 13, 15}, false}, {[]int{1, 4, 7, 11, 14}, true}, {[]int{1, 4, 7, 15, 15}, false}, {[]int{1, 4, 7, 11, 15}, true}, {[]int{0, 3, 6, 9, 15}, false},
	} {
		if shape.Wins(s, form(4), api.Hand{Bag: bag(s, c.kinds...)}) != c.wins {
			t.Error("two suits", i)
		}
	}
	s = api.Set{Players: 3, Suits: []int{9}, Winds: 4, Dragons: 3, Copies: 4, Melds: 2}
	if !shape.Wins(s, form(4), api.Hand{Bag: bag(s, 2, 9, 10, 11, 12, 13, 14, 15)}) || shape.Wins(s, form(4), api.Hand{Bag: bag(s, 2, 3, 9, 10, 11, 12, 13, 14)}) {
		t.Error("one suit")
	}
}

// TestReadingsOfStraight (P2.4): all six ways to knit three suits; the singles come behind the other groups.
func TestReadingsOfStraight(t *testing.T) {
	for i, r := range [][3]int{{0, 1, 2}, {0, 2, 1}, {1, 0, 2}, {1, 2, 0}, {2, 0, 1}, {2, 1, 0}} {
		var nine []int
		for suit := range 3 {
			nine = append(nine, 9*suit+r[suit], 9*suit+r[suit]+3, 9*suit+r[suit]+6)
		}
		h := of(append([]int{18, 19, 20, 33, 33}, nine...))
		groups := append([]api.Group{chow(18), pair(33)}, alone(nine...)...)
		want := []api.Reading{read(0, groups...), read(8, groups...)}
		if l := shape.Readings(big(), form(5), h, 18+r[2]); !sameReadings(l, want) {
			t.Error(i, l)
		}
		h = of(append([]int{nine[4], nine[4]}, nine...), open(pung(28)))
		groups = append([]api.Group{open(pung(28)), pair(nine[4])}, alone(nine...)...)
		want = []api.Reading{read(1, groups...), read(6, groups...)}
		if l := shape.Readings(big(), form(5), h, nine[4]); !sameReadings(l, want) {
			t.Error(i, l)
		}
		h = api.Hand{Bag: bag(three(), append([]int{8, 8}, nine...)...)}
		want = []api.Reading{read(0, append([]api.Group{pair(8)}, alone(nine...)...)...)}
		if n := slices.Index(nine, 8); n >= 0 {
			want = append(want, read(n+1, want[0].Groups...))
		}
		if l := shape.Readings(three(), form(5), h, 8); !sameReadings(l, want) {
			t.Error(i, "three melds", l)
		}
		h.Bag[nine[3]]--
		h.Bag[(nine[3]+1)%27]++
		if shape.Wins(three(), form(5), h) {
			t.Error(i, "one of the nine is missing")
		}
	}
	for i, h := range []api.Hand{
		of([]int{0, 3, 6, 9, 12, 15, 20, 23, 26, 31, 31, 32, 32, 32}), of([]int{0, 3, 6, 10, 13, 16, 18, 21, 24, 31, 31, 32, 32, 32}), of([]int{0, 3, 7, 10, 13, 16, 20, 23, 26, 31, 31, 32, 32, 32}),
		of([]int{0, 3, 6, 10, 13, 16, 20, 23, 26, 31, 31, 32, 32, 33}), of([]int{0, 3, 6, 10, 13, 16, 20, 23, 26, 31, 31, 31, 31, 33}), of([]int{0, 3, 6, 10, 13, 16, 20, 23}, kong(31), kong(32)), of([]int{0, 3}, kong(31), kong(32), kong(33), kong(30)), of([]int{31, 31}, kong(27), kong(32), kong(33), kong(30)),
	} {
		if shape.Wins(big(), form(5), h) || len(shape.Readings(big(), form(5), h, 0)) != 0 {
			t.Error(i, "no straight")
		}
	}
	l := shape.Readings(big(), form(5), of([]int{0, 3, 6, 10, 13, 16, 20, 23, 26, 33, 33, 33, 33, 32}), 33)
	k := shape.Readings(big(), form(5), of([]int{0, 3, 6, 10, 13, 16, 20, 23, 26, 33, 33}, kong(32)), 33)
	if len(l) != 0 || len(k) != 1 || k[0].Last != 1 || len(k[0].Groups) != 11 {
		t.Error(l, k)
	}
}

// TestReadingsOfList (P2.4): each kind as often as it is listed; of equal singles the first one is Last.
func TestReadingsOfList(t *testing.T) {
	list := form(6, 0, 1, 1, 1, 3)
	for i, c := range []struct {
		h    api.Hand
		last int
		want []api.Reading
	}{
		{tiny(1, 3, 0, 1), 1, []api.Reading{read(1, alone(0, 1, 1, 1, 3)...)}}, {tiny(1, 3, 0, 1), 0, []api.Reading{read(0, alone(0, 1, 1, 1, 3)...)}}, {tiny(1, 3, 0, 1), 3, []api.Reading{read(4, alone(0, 1, 1, 1, 3)...)}},
		{tiny(1, 3, 0, 1), 2, nil}, {tiny(2, 2, 0, 1), 1, nil}, {tiny(1, 2, 1, 1), 1, nil}, {tiny(1, 4, 0, 0), 1, nil}, {tiny(1, 1, 0, 0, open(pung(3))), 1, nil}, {tiny(1, 2, 0, 1), 1, nil},
	} {
		if l := shape.Readings(small(), list, c.h, c.last); !sameReadings(l, c.want) {
			t.Error(i, l)
		}
	}
}

// TestReadingsOfForms (P2.4): readings come by the forms of the list, also if one form is there twice.
func TestReadingsOfForms(t *testing.T) {
	l := slices.Concat(form(2), form(1), form(4), form(1))
	h := of([]int{0, 0, 1, 1, 2, 2, 9, 9, 10, 10, 11, 11, 27, 27})
	pairs := []api.Group{pair(0), pair(1), pair(2), pair(9), pair(10), pair(11), pair(27)}
	melds := []api.Group{chow(0), chow(0), chow(9), chow(9), pair(27)}
	want := []api.Reading{read(4, pairs...), {Form: 1, Groups: melds, Last: 2}, {Form: 3, Groups: melds, Last: 2}}
	if r := shape.Readings(big(), l, h, 10); !sameReadings(r, want) {
		t.Error(r)
	}
}

// TestIs (P2.4): what was read is a reading; what differs anywhere is none.
func TestIs(t *testing.T) {
	l := slices.Concat(form(1), form(4), form(1))
	h := of([]int{0, 0, 0, 1, 1, 1, 2, 2, 2, 3, 3}, open(pung(27)))
	all := shape.Readings(big(), l, h, 1)
	if len(all) != 8 {
		t.Fatal(all)
	}
	for i, r := range all {
		if !shape.Is(big(), l, h, 1, r) || shape.Is(big(), l, h, 4, r) || shape.Is(big(), l, h, -1, r) || shape.Is(big(), form(4), h, 1, r) || shape.Is(big(), nil, h, 1, r) {
			t.Error(i, "another kind or list")
		}
		if shape.Is(big(), l[:1], h, 1, r) != (r.Form == 0) {
			t.Error(i, "a shorter list")
		}
		for j, change := range []func(*api.Reading){
			func(r *api.Reading) { r.Form = 1 }, func(r *api.Reading) { r.Form = -1 }, func(r *api.Reading) { r.Form = 3 }, func(r *api.Reading) { r.Last = 0 }, func(r *api.Reading) { r.Last = -1 }, func(r *api.Reading) { r.Last = 5 }, func(r *api.Reading) { r.Groups = nil },
			func(r *api.Reading) { r.Groups = r.Groups[1:] }, func(r *api.Reading) { r.Groups = append(r.Groups, pair(5)) }, func(r *api.Reading) { r.Groups[0].Open = false }, func(r *api.Reading) { r.Groups[1].Open = true }, func(r *api.Reading) { r.Groups[4].Kind = 5 }, func(r *api.Reading) { r.Groups[1].What++ },
			func(r *api.Reading) { slices.Reverse(r.Groups) }, func(r *api.Reading) { r.Groups[0], r.Groups[1] = r.Groups[1], r.Groups[0] }, func(r *api.Reading) { r.Groups[3], r.Groups[4] = r.Groups[4], r.Groups[3] },
		} {
			x := api.Reading{Form: r.Form, Groups: slices.Clone(r.Groups), Last: r.Last}
			change(&x)
			if shape.Is(big(), l, h, 1, x) {
				t.Error(i, j, x)
			}
		}
	}
	last := read(2, open(pung(27)), chow(0), chow(0), chow(0), pair(3))
	if shape.Is(big(), l, h, 1, last) {
		t.Error("the second one of equal groups")
	}
}

// TestReadingsAreApart (R4): hand and forms stay as they are, and readings share no memory.
func TestReadingsAreApart(t *testing.T) {
	melds := []api.Group{open(pung(27)), pair(9), pair(9)}
	list := []int{0, 1, 2, 2, 3}
	h := of([]int{0, 0, 0, 1, 1, 1, 2, 2, 2, 3, 3}, melds[:1]...)
	h.Melds = melds[:1]
	was := shape.Copy(h)
	l := shape.Readings(big(), form(1), h, 1)
	if len(l) != 4 {
		t.Fatal(l)
	}
	x := shape.Readings(small(), form(6, list...), tiny(1, 1, 2, 1), 2)
	x[0].Groups[0].Kind = 9
	for i := range l {
		_ = append(l[i].Groups, pair(50+i))
		for j := range l[i].Groups {
			l[i].Groups[j] = api.Group{What: i, Kind: j}
		}
	}
	for i := range l {
		for j, g := range l[i].Groups {
			if g != (api.Group{What: i, Kind: j}) {
				t.Error(i, j, g)
			}
		}
	}
	if !shape.Same(h, was) || melds[1] != pair(9) || !slices.Equal(list, []int{0, 1, 2, 2, 3}) {
		t.Error("arguments were changed")
	}
}

// TestAllReadings (P2.3, P2.4, P2.7): for hands of all sorts, the readings for each kind are those of the oracle.
func TestAllReadings(t *testing.T) {
	for i, s := range sets() {
		forms := formsFor(s)
		if e := shape.CheckForms(s, forms); e != api.OK {
			t.Fatal(i, e)
		}
		seen := map[int]int{}
		for _, h := range hands(s, forms, 40) {
			all := apart(s, forms, h)
			for _, r := range all {
				seen[forms[r.Form].What]++
			}
			for k := range tile.Kinds(s) {
				got := shape.Readings(s, forms, h, k)
				if want := lasts(s, all, len(h.Melds), k); !sameReadings(got, want) {
					t.Fatal(i, h, k, got, want)
				}
				for _, r := range got {
					if !shape.Is(s, forms, h, k, r) {
						t.Error(i, h, k, r)
					}
				}
			}
		}
		for what := api.FormMelds; i == 0 && what <= api.FormList; what++ {
			if seen[what] < 10 {
				t.Error("too few readings by the form", what)
			}
		}
	}
}

// hands are full hands for a set, many of each form; half of them are spoiled by an exchanged tile.
func hands(s api.Set, forms []api.Form, many int) []api.Hand {
	var all []api.Hand
	d := dice(many)
	for _, f := range forms {
		for i := range many {
			if h := dealt(s, f, &d, i%2 == 1); shape.Full(s, h) {
				all = append(all, h)
			}
		}
	}
	return all
}

// TestSmallReadings (P2.4, P2.5): all full hands of the small set, with and without a declared meld.
func TestSmallReadings(t *testing.T) {
	s, many := small(), 0
	forms := formsFor(s)
	melds := [][]api.Group{nil, {open(chow(0))}}
	for k := range 4 {
		melds = append(melds, []api.Group{open(pung(k))}, []api.Group{open(kong(k))}, []api.Group{kong(k)})
	}
	for _, b := range bagsOf(s, 4, 5) {
		for _, m := range melds {
			h := api.Hand{Bag: b, Melds: m}
			if !shape.Full(s, h) {
				continue
			}
			many++
			all := apart(s, forms, h)
			for k := range 4 {
				got, want := shape.Readings(s, forms, h, k), lasts(s, all, len(m), k)
				if !sameReadings(got, want) {
					t.Fatal(h, k, got, want)
				}
			}
			if shape.Wins(s, forms, h) != (len(all) > 0) {
				t.Error(h, all)
			}
		}
	}
	if many < 100 {
		t.Error("too few hands:", many)
	}
}

package shape_test

import (
	"math"
	"slices"
	"testing"

	"sparrow/api"
	"sparrow/shape"
	"sparrow/tile"
)

// with is a set with other melds, suits, copies and dead tiles.
func with(s api.Set, melds, copies int, suits ...int) api.Set {
	s.Melds, s.Copies, s.Suits, s.Reds, s.Dead = melds, copies, suits, nil, 0
	return s
}

func TestSetsAreValid(t *testing.T) {
	for i, s := range sets() {
		if e := tile.Check(s); e != api.OK {
			t.Error(i, e)
		}
	}
}

// TestCheckForm (P2.1): what each form needs, and which error comes first.
func TestCheckForm(t *testing.T) {
	orphans := tile.Orphans(big())
	for i, c := range []struct {
		s    api.Set
		f    api.Form
		want api.Errno
	}{
		{small(), api.Form{}, api.ErrKind}, {small(), api.Form{What: 7}, api.ErrKind}, {small(), api.Form{What: -1}, api.ErrKind},
		{small(), api.Form{What: math.MaxInt}, api.ErrKind}, {small(), api.Form{What: math.MinInt, Kinds: []int{9}, Again: true}, api.ErrKind},
		{small(), api.Form{What: 1}, api.OK}, {small(), api.Form{What: 1, Kinds: []int{}}, api.OK}, {small(), api.Form{What: 1, Kinds: []int{0}}, api.ErrForm}, {big(), api.Form{What: 1, Again: true}, api.ErrForm},
		{small(), api.Form{What: 2}, api.ErrForm}, {two(), api.Form{What: 2}, api.OK}, {three(), api.Form{What: 2}, api.ErrForm}, {big(), api.Form{What: 2}, api.OK},
		{big(), api.Form{What: 2, Again: true}, api.OK}, {small(), api.Form{What: 2, Again: true}, api.ErrForm}, {big(), api.Form{What: 2, Kinds: []int{1}}, api.ErrForm},
		{small(), api.Form{What: 4}, api.OK}, {big(), api.Form{What: 4}, api.OK}, {big(), api.Form{What: 4, Kinds: []int{0}}, api.ErrForm}, {big(), api.Form{What: 4, Again: true}, api.ErrForm},
		{small(), api.Form{What: 5}, api.ErrForm}, {big(), api.Form{What: 5}, api.OK}, {three(), api.Form{What: 5}, api.OK}, {with(big(), 2, 4, 9, 9, 9), api.Form{What: 5}, api.ErrForm},
		{with(big(), 3, 4, 9, 9), api.Form{What: 5}, api.ErrForm}, {with(big(), 3, 4, 9, 9, 8), api.Form{What: 5}, api.ErrForm}, {with(big(), 3, 4, 8, 9, 9), api.Form{What: 5}, api.ErrForm},
		{big(), api.Form{What: 5, Kinds: []int{0}}, api.ErrForm}, {big(), api.Form{What: 5, Again: true}, api.ErrForm},
		{small(), api.Form{What: 3, Kinds: []int{0, 1, 3}}, api.ErrForm}, {small(), api.Form{What: 3, Kinds: []int{0, 1, 3, 2}}, api.ErrOrder}, {small(), api.Form{What: 3, Kinds: []int{0, 1, 2, 3}}, api.OK},
		{small(), api.Form{What: 3, Kinds: []int{0, 1, 2, 4}}, api.ErrRange}, {small(), api.Form{What: 3}, api.ErrForm}, {small(), api.Form{What: 3, Kinds: []int{0, 1, 2, 3, 4}}, api.ErrForm},
		{small(), api.Form{What: 3, Kinds: []int{-1, 1, 2, 3}}, api.ErrRange}, {small(), api.Form{What: 3, Kinds: []int{0, 1, 1, 4}}, api.ErrOrder}, {small(), api.Form{What: 3, Kinds: []int{0, 4, 1, 1}}, api.ErrRange},
		{small(), api.Form{What: 3, Kinds: []int{1, 0, 2, 4}}, api.ErrOrder}, {small(), api.Form{What: 3, Kinds: []int{0, 1, 2, 3}, Again: true}, api.ErrForm}, {small(), api.Form{What: 3, Kinds: []int{3, 2, 1, 0}, Again: true}, api.ErrForm},
		{big(), api.Form{What: 3, Kinds: orphans}, api.OK}, {big(), api.Form{What: 3, Kinds: orphans[1:]}, api.ErrForm}, {uneven(), api.Form{What: 3, Kinds: []int{0, 1, 2, 3, 4, 5, 15}}, api.ErrRange},
		{small(), api.Form{What: 6, Kinds: []int{2, 2, 2, 2, 2}}, api.ErrFull}, {small(), api.Form{What: 6, Kinds: []int{2, 2, 2, 2, 1}}, api.ErrOrder}, {small(), api.Form{What: 6, Kinds: []int{1, 0, 2, 2, 2}}, api.ErrOrder}, {small(), api.Form{What: 6, Kinds: []int{2, 2, 2, 2, 3}}, api.OK},
		{small(), api.Form{What: 6, Kinds: []int{0, 1, 1, 1, 1}}, api.OK}, {small(), api.Form{What: 6, Kinds: []int{2, 2, 2, 2, 4}}, api.ErrRange}, {small(), api.Form{What: 6, Kinds: []int{-1, 2, 2, 2, 2}}, api.ErrRange},
		{small(), api.Form{What: 6, Kinds: []int{2, 2, 2, 2}}, api.ErrForm}, {small(), api.Form{What: 6, Kinds: []int{0, 2, 2, 2, 2, 2}}, api.ErrForm}, {small(), api.Form{What: 6}, api.ErrForm},
		{two(), api.Form{What: 6, Kinds: []int{1, 1, 1, 1, 1, 0, 9, 9}}, api.ErrFull}, {two(), api.Form{What: 6, Kinds: []int{1, 1, 1, 1, 0, 0, 0, 9}}, api.ErrOrder}, {two(), api.Form{What: 6, Kinds: []int{0, 0, 0, 0, 1, 1, 1, 1}}, api.OK},
		{lone(), api.Form{What: 6, Kinds: []int{0, 1, 2, 2, 3}}, api.ErrFull}, {lone(), api.Form{What: 6, Kinds: []int{0, 1, 2, 3, 15}}, api.OK}, {lone(), api.Form{What: 6, Kinds: []int{0, 1, 2, 3, 16}}, api.ErrRange},
		{three(), api.Form{What: 6, Kinds: []int{0, 0, 0, 0, 1, 1, 1, 2, 2, 2, 3}}, api.ErrFull}, {small(), api.Form{What: 6, Kinds: []int{0, 0, 1, 2, 3}, Again: true}, api.ErrForm},
	} {
		if e := shape.CheckForm(c.s, c.f); e != c.want {
			t.Errorf("%d: %v instead of %v", i, e, c.want)
		}
		want := c.want
		if want == api.OK {
			want = api.ErrKind
		}
		if e := shape.CheckForms(c.s, []api.Form{{What: 1}, c.f, {What: 9}}); e != want {
			t.Errorf("%d in a list: %v instead of %v", i, e, want)
		}
	}
}

// TestCheckForms (P2.1): how many forms there may be, and that the first wrong one counts.
func TestCheckForms(t *testing.T) {
	for i, c := range []struct {
		l    []api.Form
		want api.Errno
	}{
		{nil, api.ErrShort}, {[]api.Form{}, api.ErrShort}, {form(1), api.OK}, {slices.Repeat(form(1), 8), api.OK}, {slices.Repeat(form(1), 9), api.ErrFull}, {slices.Repeat(form(0), 9), api.ErrFull},
		{slices.Concat(form(1), form(4), form(3, 0, 1, 2, 3)), api.OK}, {slices.Concat(form(1), form(2), form(0)), api.ErrForm}, {slices.Concat(form(1), form(0), form(2)), api.ErrKind}, {slices.Concat(slices.Repeat(form(1), 7), form(3, 0, 1, 2, 9)), api.ErrRange},
	} {
		if e := shape.CheckForms(small(), c.l); e != c.want {
			t.Error(i, e)
		}
	}
}

// TestCheckHand (P2.1, P2.2): each error, which one comes first, and which hands are full.
func TestCheckHand(t *testing.T) {
	c0, p3, k2 := open(chow(0)), open(pung(3)), kong(2)
	for i, c := range []struct {
		h    api.Hand
		want api.Errno
		full bool
	}{
		{tiny(1, 1, 1, 1), api.OK, false}, {tiny(1, 1, 2, 1), api.OK, true}, {tiny(1, 1, 0, 0), api.ErrShort, false}, {tiny(1, 1, 1, 0), api.ErrShort, false}, {tiny(2, 2, 2, 0), api.ErrLong, false}, {tiny(4, 4, 4, 4), api.ErrLong, false},
		{tiny(5, 0, 0, 0), api.ErrRange, false}, {tiny(4, 0, 0, 0), api.OK, false}, {tiny(-1, 2, 2, 2), api.ErrRange, false}, {tiny(math.MaxInt, math.MaxInt, 3, 3), api.ErrRange, false}, {tiny(0, 0, 0, math.MinInt), api.ErrRange, false},
		{api.Hand{}, api.ErrForm, false}, {api.Hand{Bag: []int{1, 1, 2}}, api.ErrForm, false}, {api.Hand{Bag: []int{1, 1, 1, 1, 0}}, api.ErrForm, false}, {api.Hand{Bag: []int{9, 9, 9}, Melds: []api.Group{{}, {}}}, api.ErrForm, false},
		{tiny(0, 0, 2, 0, p3), api.OK, true}, {tiny(0, 0, 1, 0, p3), api.OK, false}, {tiny(0, 0, 2, 0, pung(3)), api.ErrForm, false}, {tiny(0, 0, 2, 0, kong(3)), api.OK, true}, {tiny(0, 0, 2, 0, open(kong(3))), api.OK, true},
		{tiny(0, 2, 0, 0, open(chow(1))), api.ErrForm, false}, {tiny(0, 2, 0, 0, chow(0)), api.ErrForm, false}, {tiny(0, 2, 0, 0, open(chow(3))), api.ErrForm, false}, {tiny(0, 2, 0, 0, open(pung(1))), api.ErrFull, false}, {tiny(0, 1, 0, 0, open(pung(1))), api.OK, false},
		{tiny(0, 2, 0, 0, c0), api.OK, true}, {tiny(0, 2, 1, 0, c0), api.ErrLong, false}, {tiny(0, 0, 0, 0, c0), api.ErrShort, false}, {tiny(0, 4, 0, 0, c0), api.ErrFull, false}, {tiny(0, 0, 4, 0, c0), api.ErrFull, false}, {tiny(0, 0, 1, 0, k2), api.ErrFull, false},
		{tiny(1, 1, 0, 0, c0, p3), api.ErrFull, false}, {tiny(1, 1, 0, 0, pair(9), pair(9)), api.ErrFull, false}, {tiny(5, 1, 0, 0, c0, p3), api.ErrRange, false},
		{tiny(1, 1, 0, 0, open(pair(3))), api.ErrKind, false}, {tiny(1, 1, 0, 0, api.Group{What: 5, Kind: 3, Open: true}), api.ErrKind, false}, {tiny(1, 1, 0, 0, api.Group{What: 0, Kind: 3, Open: true}), api.ErrKind, false}, {tiny(1, 1, 0, 0, api.Group{What: -1}), api.ErrKind, false}, {tiny(1, 1, 0, 0, pair(9)), api.ErrKind, false},
		{tiny(1, 1, 0, 0, open(pung(4))), api.ErrRange, false}, {tiny(1, 1, 0, 0, pung(4)), api.ErrRange, false}, {tiny(1, 1, 0, 0, chow(-1)), api.ErrRange, false}, {tiny(1, 1, 0, 0, kong(math.MaxInt)), api.ErrRange, false}, {tiny(4, 4, 4, 4, chow(1)), api.ErrForm, false},
	} {
		if e := shape.CheckHand(small(), c.h); e != c.want || shape.Full(small(), c.h) != c.full {
			t.Errorf("%d: %v instead of %v", i, e, c.want)
		}
	}
	for i, c := range []struct {
		melds []api.Group
		want  api.Errno
	}{
		{[]api.Group{c0, open(pair(0))}, api.ErrKind}, {[]api.Group{open(chow(2)), pair(0)}, api.ErrForm}, {[]api.Group{open(pung(6)), pair(0)}, api.ErrRange}, {[]api.Group{c0, c0, c0}, api.ErrFull},
		{[]api.Group{c0, kong(1)}, api.ErrFull}, {[]api.Group{c0, pung(1)}, api.ErrForm}, {[]api.Group{c0, open(pung(1))}, api.OK}, {[]api.Group{c0, c0}, api.OK}, {[]api.Group{c0}, api.ErrShort}, {[]api.Group{kong(1), kong(1)}, api.ErrFull},
	} {
		if e := shape.CheckHand(two(), api.Hand{Bag: bag(two(), 5), Melds: c.melds}); e != c.want {
			t.Errorf("melds %d: %v instead of %v", i, e, c.want)
		}
	}
	if e := shape.CheckHand(uneven(), api.Hand{Bag: bag(uneven(), 0), Melds: []api.Group{open(chow(1)), kong(15)}}); e != api.ErrRange {
		t.Error("a kong of a flower:", e)
	}
}

// TestTiles (P2.2): each group, and groups that are not valid.
func TestTiles(t *testing.T) {
	for i, c := range []struct {
		s    api.Set
		g    api.Group
		want []int
	}{
		{small(), chow(0), []int{0, 1, 2}}, {small(), chow(1), nil}, {small(), chow(2), nil}, {small(), chow(3), nil}, {small(), open(pung(3)), []int{3, 3, 3}}, {small(), kong(2), []int{2, 2, 2, 2}}, {small(), pair(1), []int{1, 1}}, {small(), api.Group{What: 5}, []int{0}},
		{small(), pair(4), nil}, {small(), pair(-1), nil}, {small(), api.Group{}, nil}, {small(), api.Group{What: 6}, nil}, {small(), api.Group{What: -1}, nil}, {small(), kong(math.MaxInt), nil}, {small(), chow(math.MaxInt), nil},
		{big(), chow(6), []int{6, 7, 8}}, {big(), chow(7), nil}, {big(), chow(9), []int{9, 10, 11}}, {big(), chow(24), []int{24, 25, 26}}, {big(), chow(27), nil}, {big(), chow(31), nil}, {big(), kong(33), []int{33, 33, 33, 33}}, {big(), pung(34), nil},
		{lone(), kong(5), []int{5, 5, 5, 5}}, {uneven(), api.Group{What: 5, Kind: 14}, []int{14}}, {uneven(), api.Group{What: 5, Kind: 15}, nil}, {uneven(), chow(0), nil}, {uneven(), chow(1), []int{1, 2, 3}},
	} {
		if l := shape.Tiles(c.s, c.g); !slices.Equal(l, c.want) {
			t.Error(i, l)
		}
	}
}

// TestTotal (P2.2): the tiles of bag and melds together.
func TestTotal(t *testing.T) {
	for i, c := range []struct {
		h    api.Hand
		want []int
	}{
		{tiny(0, 0, 2, 0, kong(3)), []int{0, 0, 2, 4}}, {tiny(0, 0, 2, 0, open(pung(3))), []int{0, 0, 2, 3}}, {tiny(0, 0, 0, 1, open(chow(0))), []int{1, 1, 1, 1}}, {tiny(3, 0, 1, 0), []int{3, 0, 1, 0}},
		{tiny(0, 0, 2, 0, pung(3)), nil}, {tiny(1, 1, 1, 0), nil}, {tiny(0, 0, 1, 0, kong(2)), nil}, {api.Hand{}, nil},
	} {
		if l := shape.Total(small(), c.h); !slices.Equal(l, c.want) {
			t.Error(i, l)
		}
	}
	h := of([]int{5}, open(chow(0)), open(chow(1)), open(chow(2)), kong(33))
	want := bag(big(), 0, 1, 1, 2, 2, 2, 3, 3, 4, 5, 33, 33, 33, 33)
	if l := shape.Total(big(), h); !slices.Equal(l, want) {
		t.Error(l)
	}
}

// TestSame (P2.6): hands differ if any part does, valid or not.
func TestSame(t *testing.T) {
	hands := []api.Hand{
		{}, {Bag: []int{0}}, {Bag: []int{0, 0}}, {Bag: []int{1, -5}}, {Melds: []api.Group{{}}}, {Melds: []api.Group{{}, {}}}, tiny(1, 1, 1, 1), tiny(1, 1, 1, 2),
		tiny(1, 1, 0, 0, open(pung(3))), tiny(1, 1, 0, 0, pung(3)), tiny(1, 1, 0, 0, open(pung(2))), tiny(1, 1, 0, 0, open(kong(3))), tiny(1, 1, 0, 0, open(chow(0)), kong(3)), tiny(1, 1, 0, 0, kong(3), open(chow(0))),
	}
	for i, a := range hands {
		for j, b := range hands {
			if shape.Same(a, b) != (i == j) || shape.Same(a, shape.Copy(b)) != (i == j) {
				t.Error(i, j)
			}
		}
	}
	empty := api.Hand{Bag: []int{}, Melds: []api.Group{}}
	if !shape.Same(api.Hand{}, empty) || !shape.Same(empty, api.Hand{}) || !shape.Same(shape.Copy(empty), api.Hand{}) {
		t.Error("nil lists and empty ones")
	}
}

// TestCopy (P2.6, R4): neither a copy nor the hand changes with the other, nor with what is added to it.
func TestCopy(t *testing.T) {
	counts, melds := []int{1, 1, 0, 0, 9}, []api.Group{kong(3), kong(9)}
	h := api.Hand{Bag: counts[:4], Melds: melds[:1]}
	c := shape.Copy(h)
	c.Bag[0], c.Melds[0].Kind = 7, 7
	_, _ = append(c.Bag, 5), append(c.Melds, pair(5))
	if !shape.Same(h, tiny(1, 1, 0, 0, kong(3))) || counts[4] != 9 || melds[1] != kong(9) {
		t.Error("the hand changes with its copy")
	}
	h.Bag[1], h.Melds[0].Open = 8, true
	if !shape.Same(c, tiny(7, 1, 0, 0, kong(7))) {
		t.Error("the copy changes with its hand")
	}
	none := shape.Copy(api.Hand{Bag: counts[:0], Melds: melds[:0]})
	_, _ = append(none.Bag, 6), append(none.Melds, pair(6))
	if counts[0] != 1 || melds[0].What != api.Kong {
		t.Error("an empty copy shares memory")
	}
}

// silent reports whether all functions without an error return nothing, or false.
func silent(s api.Set, l []api.Form, h api.Hand) bool {
	r := api.Reading{Groups: []api.Group{chow(0), pair(2)}}
	return len(shape.Readings(s, l, h, 2)) == 0 && !shape.Is(s, l, h, 2, r) && !shape.Is(s, l, h, 2, api.Reading{}) && !shape.Wins(s, l, h) && len(shape.Waits(s, l, h)) == 0
}

// TestNotValid (P2.1): Check's error comes first, and without a valid set, list or hand there is no result.
func TestNotValid(t *testing.T) {
	full, rest := tiny(1, 1, 3, 0), tiny(1, 1, 2, 0)
	for i, s := range wrongSets() {
		e := tile.Check(s)
		if e == api.OK || shape.CheckForm(s, api.Form{What: 9}) != e || shape.CheckForms(s, nil) != e || shape.CheckForms(s, form(1)) != e || shape.CheckHand(s, api.Hand{}) != e || shape.CheckHand(s, full) != e {
			t.Error(i, "the set's error")
		}
		if shape.Full(s, full) || len(shape.Tiles(s, pair(0)))+len(shape.Total(s, full))+len(shape.Splits(s, full.Bag))+len(shape.Splits(s, nil)) != 0 || !silent(s, form(1), full) || !silent(s, form(1), rest) {
			t.Error(i, "the set is not valid")
		}
	}
	if silent(small(), form(1), full) || silent(small(), form(1), rest) {
		t.Fatal("nothing is found")
	}
	for i, l := range [][]api.Form{nil, form(0), form(2), form(7), slices.Concat(form(1), form(5)), slices.Repeat(form(1), 9), form(1, 0), {{What: 1, Again: true}}} {
		if !silent(small(), l, full) || !silent(small(), l, rest) {
			t.Error(i, "the list is not valid")
		}
	}
	for i, h := range []api.Hand{{}, tiny(1, 1, 1, 0), tiny(2, 2, 2, 0), tiny(5, 0, 0, 0), tiny(0, 0, 2, 0, pung(3)), tiny(0, 0, 0, 0), {Bag: []int{1, 1, 3}}, {Bag: []int{1, 1, 3, 0, 0}}, tiny(0, 0, 1, 0, kong(2)), tiny(0, 0, 2, 0, open(chow(0)), kong(3)), tiny(2, 2, 2, 2), tiny(1, 1, 6, 0)} {
		if !silent(small(), form(1), h) {
			t.Error(i, "the hand is not valid")
		}
	}
}

// TestAnyArguments (P1, R5): no function panics, however great or small the numbers are.
func TestAnyArguments(t *testing.T) {
	numbers := []int{math.MinInt, math.MinInt + 2, -3, -1, 0, 1, 2, 3, 4, 5, 6, 33, 34, math.MaxInt - 2, math.MaxInt}
	for _, s := range append(sets(), wrongSets()...) {
		for _, n := range numbers {
			noPanic(t, "a function of hands", func() { callAll(s, n) })
		}
	}
}

// callAll calls all functions for a set and a number, in the place of each other number.
func callAll(s api.Set, n int) {
	k := max(tile.Kinds(s), 2)
	full := make([]int, k)
	full[0], full[1] = 3, 2
	great := slices.Repeat([]int{n}, k)
	odd := append(slices.Repeat([]int{0}, k-1), n)
	var hands []api.Hand
	for what := range 7 {
		for _, b := range [][]int{full, great, odd, nil, {n}} {
			g := api.Group{What: what, Kind: n, Open: n%2 == 0}
			hands = append(hands, api.Hand{Bag: b}, api.Hand{Bag: b, Melds: []api.Group{g}}, api.Hand{Bag: b, Melds: []api.Group{{What: n, Kind: what}}}, api.Hand{Bag: b, Melds: slices.Repeat([]api.Group{g}, 5)})
		}
	}
	for _, h := range hands {
		shape.CheckHand(s, h)
		shape.Full(s, h)
		shape.Total(s, h)
		shape.Splits(s, h.Bag)
		shape.Same(h, shape.Copy(h))
		for what := range 7 {
			l := []api.Form{{What: what}, {What: n}}
			shape.Readings(s, l[:1], h, n)
			shape.Waits(s, l, h)
			shape.Wins(s, l, h)
			shape.Is(s, l[:1], h, n, api.Reading{Form: n, Last: n, Groups: h.Melds})
		}
	}
	for what := range 8 {
		shape.CheckForm(s, api.Form{What: what, Kinds: slices.Repeat([]int{n}, 3*max(s.Melds, 1)+1)})
		shape.CheckForms(s, []api.Form{{What: what, Kinds: great}, {What: n, Kinds: odd}})
		shape.Tiles(s, api.Group{What: what, Kind: n})
		shape.Tiles(s, api.Group{What: n, Kind: what})
	}
}

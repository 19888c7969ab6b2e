package shape_test

import (
	"math"
	"slices"
	"testing"

	"sparrow/api"
	"sparrow/shape"
	"sparrow/tile"
)

// TestSplits (P2.3): splits that were found by hand, among them the chapter's example.
func TestSplits(t *testing.T) {
	for i, c := range []struct {
		s    api.Set
		bag  []int
		want [][]api.Group
	}{
		{big(), bag(big(), 0, 0, 0, 1, 1, 1, 2, 2, 2, 3, 3, 27, 27, 27), [][]api.Group{{chow(0), chow(0), chow(0), pung(27), pair(3)}, {chow(0), chow(1), chow(1), pung(27), pair(0)}, {pung(0), pung(1), pung(2), pung(27), pair(3)}}},
		{small(), []int{0, 0, 0, 2}, [][]api.Group{{pair(3)}}}, {small(), []int{3, 0, 2, 0}, [][]api.Group{{pung(0), pair(2)}}}, {small(), []int{1, 1, 3, 0}, [][]api.Group{{chow(0), pair(2)}}},
		{small(), []int{4, 1, 0, 0}, nil}, {small(), []int{2, 2, 1, 0}, nil}, {small(), []int{0, 2, 1, 2}, nil}, {small(), []int{1, 1, 0, 0}, nil},
		{two(), []int{3, 3, 2, 0, 0, 0}, [][]api.Group{{pung(0), pung(1), pair(2)}}}, {two(), []int{4, 1, 1, 0, 2, 0}, [][]api.Group{{chow(0), pung(0), pair(4)}}}, {two(), []int{4, 2, 2, 0, 0, 0}, [][]api.Group{{chow(0), chow(0), pair(0)}}},
		{two(), []int{4, 4, 0, 0, 0, 0}, nil}, {two(), []int{2, 2, 2, 0, 2, 0}, [][]api.Group{{chow(0), chow(0), pair(4)}}}, {two(), []int{2, 2, 2, 2, 0, 0}, [][]api.Group{{chow(0), chow(0), pair(3)}, {chow(1), chow(1), pair(0)}}},
		{two(), []int{0, 0, 0, 3, 3, 2}, [][]api.Group{{pung(3), pung(4), pair(5)}}}, {two(), []int{0, 0, 1, 1, 1, 2}, nil},
		{big(), bag(big(), 0, 0, 1, 1, 2, 2, 3, 3), [][]api.Group{{chow(0), chow(0), pair(3)}, {chow(1), chow(1), pair(0)}}},
		{big(), bag(big(), 7, 8, 9, 9, 9), nil}, {big(), bag(big(), 27, 28, 29, 30, 30), nil}, {big(), bag(big(), 31, 32, 33, 30, 30), nil}, {big(), bag(big(), 24, 25, 26, 27, 27), [][]api.Group{{chow(24), pair(27)}}},
		{big(), bag(big(), 25, 26, 27, 28, 28), nil}, {uneven(), bag(uneven(), 0, 1, 2, 0, 0), nil}, {uneven(), bag(uneven(), 10, 11, 12, 14, 14), nil},
		{big(), bag(big(), 0, 0, 0, 0, 1, 1, 1, 1, 2, 2, 2, 2, 33, 33), [][]api.Group{{chow(0), chow(0), chow(0), chow(0), pair(33)}, {chow(0), pung(0), pung(1), pung(2), pair(33)}}},
	} {
		if l := shape.Splits(c.s, c.bag); !sameLists(l, c.want) {
			t.Error(i, l)
		}
	}
}

// TestNoSplits (P2.3): bags with other lengths, counts or numbers of tiles.
func TestNoSplits(t *testing.T) {
	for i, b := range [][]int{nil, {}, {2}, {2, 0, 0}, {0, 0, 0, 0}, {2, 0, 0, 0, 0}, {5, 0, 0, 0}, {-1, 3, 0, 0}, {3, -1, 0, 0}, {1, 1, 1, 0}, {2, 0, 0, 1}, {4, 0, 0, 0}, {3, 3, 0, 0}, {2, 3, 3, 0}, {3, 3, 2, 0}, {math.MaxInt, 0, 0, 0}, {math.MinInt, 2, 0, 0}, {math.MaxInt, 1, math.MinInt, 2}} {
		if l := shape.Splits(small(), b); len(l) != 0 {
			t.Error(i, l)
		}
	}
	if l := shape.Splits(lone(), bag(lone(), 0, 1, 2, 3, 3)); len(l) != 0 {
		t.Error("more than Copies", l)
	}
	if l := shape.Splits(big(), bag(big(), 0, 0, 0, 1, 1, 1, 2, 2, 2, 3, 3, 3, 4, 4, 4, 5, 5)); len(l) != 0 {
		t.Error("five melds", l)
	}
}

// TestAllSplits (P2.3): for all bags of small sets the splits are those of the oracle.
func TestAllSplits(t *testing.T) {
	for _, s := range []api.Set{small(), two()} {
		many := 0
		for _, b := range bagsOf(s, tile.Kinds(s), 3*s.Melds+2) {
			var want [][]api.Group
			for _, l := range lists(s, b, api.Chow, api.Pung, api.Pair) {
				if len(kindsWith(l, api.Pair)) == 1 {
					want = append(want, l)
				}
			}
			if l := shape.Splits(s, b); !sameLists(l, want) {
				t.Fatal(b, l, want)
			}
			many += len(want)
		}
		if many < 20 {
			t.Error("too few splits:", many)
		}
	}
}

// bagsOf are all bags of a number of kinds with at most so many tiles.
func bagsOf(s api.Set, kinds, most int) [][]int {
	if kinds == 0 {
		return [][]int{nil}
	}
	var all [][]int
	for _, b := range bagsOf(s, kinds-1, most) {
		for n := range min(s.Copies, most-sum(b)) + 1 {
			all = append(all, append(slices.Clone(b), n))
		}
	}
	return all
}

// TestSplitsOfRow (P2.3): bags with most of their tiles in one suit are split as by the oracle.
func TestSplitsOfRow(t *testing.T) {
	s := api.Set{Players: 3, Suits: []int{9}, Dragons: 2, Copies: 4, Melds: 4}
	d, most := dice(1), 0
	for range 400 {
		h := api.Hand{Bag: bag(s)}
		addMelds(s, &h, &d, 4, math.MaxInt)
		addGroup(s, &h, &d, api.Pair)
		var want [][]api.Group
		for _, l := range lists(s, h.Bag, api.Chow, api.Pung, api.Pair) {
			if len(kindsWith(l, api.Pair)) == 1 {
				want = append(want, l)
			}
		}
		if l := shape.Splits(s, h.Bag); !sameLists(l, want) {
			t.Fatal(h.Bag, l, want)
		}
		most = max(most, len(want))
	}
	if most < 3 {
		t.Error("no bag has several splits")
	}
}

// TestSplitsAreApart (R4): the bag stays as it is, and splits share no memory.
func TestSplitsAreApart(t *testing.T) {
	b := bag(big(), 0, 0, 0, 1, 1, 1, 2, 2, 2, 3, 3)
	l := shape.Splits(big(), b)
	for i := range l {
		_ = append(l[i], pair(50+i))
		for j := range l[i] {
			l[i][j] = api.Group{What: i, Kind: j}
		}
	}
	for i := range l {
		for j, g := range l[i] {
			if g != (api.Group{What: i, Kind: j}) {
				t.Error(i, j, g)
			}
		}
	}
	if !slices.Equal(b, bag(big(), 0, 0, 0, 1, 1, 1, 2, 2, 2, 3, 3)) || len(shape.Splits(big(), b)) != 3 {
		t.Error("the bag")
	}
}

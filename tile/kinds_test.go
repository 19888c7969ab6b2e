package tile_test

import (
	"slices"
	"testing"

	"sparrow/api"
	"sparrow/tile"
)

// TestKindsAndSize (P1.2): flowers are tiles, but no plain kinds.
func TestKindsAndSize(t *testing.T) {
	for i, c := range []struct {
		s           api.Set
		kinds, size int
	}{{big(), 34, 136}, {small(), 4, 16}, {garden(), 34, 144}, {uneven(), 14, 44}, {honours(), 7, 29}} {
		if k, n := tile.Kinds(c.s), tile.Size(c.s); k != c.kinds || n != c.size {
			t.Error(i, k, n)
		}
	}
}

// TestKindAndRed (P1.2): only the copy 0 of a kind in Reds is red.
func TestKindAndRed(t *testing.T) {
	for i, c := range []struct {
		s          api.Set
		tile, kind int
		red        bool
	}{
		{big(), 0, 0, false}, {big(), 3, 0, false}, {big(), 4, 1, false}, {big(), 15, 3, false}, {big(), 16, 4, true}, {big(), 17, 4, false},
		{big(), 19, 4, false}, {big(), 52, 13, true}, {big(), 88, 22, true}, {big(), 135, 33, false}, {big(), 136, -1, false}, {big(), -1, -1, false},
		{garden(), 0, 0, true}, {garden(), 1, 0, false}, {garden(), 108, 27, true}, {garden(), 132, 33, true}, {garden(), 16, 4, false},
		{garden(), 136, 34, false}, {garden(), 143, 41, false}, {garden(), 144, -1, false},
		{uneven(), 0, 0, true}, {uneven(), 2, 0, false}, {uneven(), 3, 1, false}, {uneven(), 27, 9, true}, {uneven(), 41, 13, false}, {uneven(), 42, 14, false}, {uneven(), 43, 15, false}, {uneven(), 44, -1, false},
		{small(), 4, 1, true}, {small(), 5, 1, false}, {small(), 15, 3, false}, {small(), 16, -1, false},
	} {
		if k, red := tile.Kind(c.s, c.tile), tile.Red(c.s, c.tile); k != c.kind || red != c.red {
			t.Error(i, k, red)
		}
	}
}

// TestPlaces (P1.2): places, runs, the kinds after and mirrors, flowers among them.
func TestPlaces(t *testing.T) {
	for i, c := range []struct {
		s                api.Set
		kind, suit, rank int
		runs             bool
		after, mirror    int
	}{
		{big(), 0, 0, 0, true, 1, 8}, {big(), 1, 0, 1, true, 2, 7}, {big(), 6, 0, 6, true, 7, 2}, {big(), 7, 0, 7, false, 8, 1}, {big(), 8, 0, 8, false, 0, 0},
		{big(), 9, 1, 0, true, 10, 17}, {big(), 13, 1, 4, true, 14, 13}, {big(), 26, 2, 8, false, 18, 18}, {big(), 27, -1, 0, false, 28, 27}, {big(), 28, -1, 1, false, 29, 28},
		{big(), 30, -1, 3, false, 27, 30}, {big(), 31, -2, 0, false, 32, 31}, {big(), 33, -2, 2, false, 31, 33}, {big(), 34, -4, 0, false, -1, -1}, {big(), -1, -4, 0, false, -1, -1},
		{garden(), 34, -3, 0, false, 35, 34}, {garden(), 40, -3, 6, false, 41, 40}, {garden(), 41, -3, 7, false, 34, 41}, {garden(), 42, -4, 0, false, -1, -1},
		{uneven(), 0, 0, 0, false, 0, 0}, {uneven(), 1, 1, 0, true, 2, 9}, {uneven(), 7, 1, 6, true, 8, 3}, {uneven(), 8, 1, 7, false, 9, 2}, {uneven(), 10, 2, 0, false, 11, 11},
		{uneven(), 11, 2, 1, false, 10, 10}, {uneven(), 12, -1, 0, false, 13, 12}, {uneven(), 13, -1, 1, false, 12, 13}, {uneven(), 14, -3, 0, false, 15, 14}, {uneven(), 15, -3, 1, false, 14, 15}, {uneven(), 16, -4, 0, false, -1, -1},
		{small(), 0, 0, 0, true, 1, 2}, {small(), 1, 0, 1, false, 2, 1}, {small(), 3, -2, 0, false, 3, 3}, {small(), 4, -4, 0, false, -1, -1},
		{honours(), 0, -1, 0, false, 1, 0}, {honours(), 3, -1, 3, false, 0, 3}, {honours(), 6, -2, 2, false, 4, 6}, {honours(), 7, -3, 0, false, 7, 7},
	} {
		suit, rank := tile.Place(c.s, c.kind)
		runs, after, mirror := tile.Runs(c.s, c.kind), tile.After(c.s, c.kind), tile.Mirror(c.s, c.kind)
		if suit != c.suit || rank != c.rank || runs != c.runs || after != c.after || mirror != c.mirror {
			t.Error(i, suit, rank, runs, after, mirror)
		}
	}
}

// TestOrphans (P1.2): ascending, one of a suit with one rank, no flowers.
func TestOrphans(t *testing.T) {
	for i, c := range []struct {
		s    api.Set
		want []int
	}{
		{big(), []int{0, 8, 9, 17, 18, 26, 27, 28, 29, 30, 31, 32, 33}},
		{garden(), []int{0, 8, 9, 17, 18, 26, 27, 28, 29, 30, 31, 32, 33}},
		{small(), []int{0, 2, 3}}, {uneven(), []int{0, 1, 9, 10, 11, 12, 13}}, {honours(), []int{0, 1, 2, 3, 4, 5, 6}},
		{api.Set{Players: 3, Suits: []int{1, 9}, Copies: 4, Melds: 1}, []int{0, 1, 9}},
	} {
		if l := tile.Orphans(c.s); !slices.Equal(l, c.want) {
			t.Error(i, l)
		}
	}
}

// TestSwap (P1.2): kinds stay unless a and b are suits with equally many ranks.
func TestSwap(t *testing.T) {
	mixed := api.Set{Players: 3, Suits: []int{2, 5, 5}, Winds: 1, Flowers: 1, Copies: 4, Melds: 1}
	for i, c := range []struct {
		s                api.Set
		kind, a, b, want int
	}{
		{big(), 1, 0, 2, 19}, {big(), 1, 2, 0, 19}, {big(), 19, 0, 2, 1}, {big(), 26, 2, 0, 8}, {big(), 10, 0, 2, 10}, {big(), 10, 0, 1, 1}, {big(), 10, 1, 2, 19}, {big(), 18, 1, 2, 9},
		{big(), 1, 0, 0, 1}, {big(), 1, 0, 3, 1}, {big(), 1, 3, 0, 1}, {big(), 1, 0, -1, 1}, {big(), 1, -1, -1, 1}, {big(), 27, -1, 0, 27}, {big(), 27, -1, -2, 27}, {big(), 27, 0, 2, 27}, {big(), 33, 0, 1, 33},
		{big(), 34, 0, 2, -1}, {big(), -1, 0, 2, -1}, {big(), 34, 0, 7, -1}, {garden(), 34, 0, 2, 34}, {garden(), 42, 0, 2, -1},
		{uneven(), 0, 0, 1, 0}, {uneven(), 3, 1, 2, 3}, {uneven(), 11, 2, 1, 11}, {uneven(), 11, 2, 2, 11},
		{mixed, 2, 1, 2, 7}, {mixed, 6, 1, 2, 11}, {mixed, 7, 1, 2, 2}, {mixed, 8, 2, 1, 3}, {mixed, 0, 0, 1, 0}, {mixed, 2, 0, 1, 2}, {mixed, 12, 1, 2, 12}, {mixed, 13, 1, 2, 13}, {mixed, 14, 1, 2, -1},
		{honours(), 0, 0, 0, 0}, {honours(), 0, 0, 1, 0},
	} {
		if k := tile.Swap(c.s, c.kind, c.a, c.b); k != c.want {
			t.Errorf("%d: %d instead of %d", i, k, c.want)
		}
	}
}

// allKinds is how many kinds there are, with the flowers.
func allKinds(s api.Set) int { return tile.Kinds(s) + s.Flowers }

// ranksAt is how many ranks there are in the suit of a place (how many winds, dragons, flowers).
func ranksAt(s api.Set, suit int) int {
	switch suit {
	case -1:
		return s.Winds
	case -2:
		return s.Dragons
	case -3:
		return s.Flowers
	}
	return s.Suits[suit]
}

// TestPlacesAreOrdered (P1.2): suit by suit, then the winds, the dragons, the flowers.
func TestPlacesAreOrdered(t *testing.T) {
	for i, s := range sets() {
		suits := append(count(len(s.Suits)), -1, -2, -3)
		kind := 0
		for _, suit := range suits {
			for rank := range ranksAt(s, suit) {
				if a, b := tile.Place(s, kind); a != suit || b != rank {
					t.Error(i, kind, a, b)
				}
				kind++
			}
		}
		if kind != allKinds(s) {
			t.Error(i, kind)
		}
	}
}

// TestAfterGoesRound (P1.8): After is a permutation, in circles that are as long as there are ranks.
func TestAfterGoesRound(t *testing.T) {
	for i, s := range sets() {
		met := make([]bool, allKinds(s))
		for kind := range met {
			met[tile.After(s, kind)] = true
			suit, _ := tile.Place(s, kind)
			steps, k := 1, tile.After(s, kind)
			for k != kind && steps <= len(met) {
				k = tile.After(s, k)
				steps++
			}
			if steps != ranksAt(s, suit) {
				t.Error(i, kind, steps)
			}
		}
		if slices.Contains(met, false) {
			t.Error(i, "no permutation")
		}
	}
}

// TestMirror (P1.9): Mirror is its own inverse, turns runs and keeps orphans and suits.
func TestMirror(t *testing.T) {
	for i, s := range sets() {
		orphans := tile.Orphans(s)
		for kind := range allKinds(s) {
			m := tile.Mirror(s, kind)
			suit, rank := tile.Place(s, kind)
			other, mirrored := tile.Place(s, m)
			if tile.Mirror(s, m) != kind || other != suit || slices.Contains(orphans, kind) != slices.Contains(orphans, m) {
				t.Error(i, kind, m)
			}
			if suit >= 0 && rank+mirrored != s.Suits[suit]-1 || suit < 0 && m != kind {
				t.Error(i, kind, m)
			}
			if tile.Runs(s, kind) && (!tile.Runs(s, m-2) || tile.Mirror(s, kind+1) != m-1 || tile.Mirror(s, kind+2) != m-2) {
				t.Error(i, kind, "run")
			}
		}
	}
}

// TestSwapKeeps (P1.9): Swap is its own inverse, keeps runs, orphans and the kinds after.
func TestSwapKeeps(t *testing.T) {
	for i, s := range sets() {
		orphans := tile.Orphans(s)
		for n := range 25 * allKinds(s) {
			kind, a, b := n/25, n%25/5-1, n%5-1
			k := tile.Swap(s, kind, a, b)
			if tile.Swap(s, k, a, b) != kind || tile.Swap(s, kind, b, a) != k || slices.Contains(orphans, kind) != slices.Contains(orphans, k) {
				t.Error(i, kind, a, b, k)
			}
			if tile.Swap(s, tile.After(s, kind), a, b) != tile.After(s, k) || tile.Runs(s, kind) != tile.Runs(s, k) {
				t.Error(i, kind, a, b, k)
			}
			if tile.Runs(s, kind) && (tile.Swap(s, kind+1, a, b) != k+1 || tile.Swap(s, kind+2, a, b) != k+2) {
				t.Error(i, kind, a, b, "run")
			}
		}
	}
}

package tile

import (
	"iter"

	"sparrow/api"
)

// What stands for the suit in the place of a kind that is in none.
const (
	windSuit   = -1
	dragonSuit = -2
	flowerSuit = -3
	noSuit     = -4
)

// place is the place of a kind, and how many ranks (or winds, dragons, flowers) there are with it.
type place struct{ suit, rank, ranks int }

// kinds yields the kinds of a valid set with their places, flowers at the end.
func kinds(s api.Set) iter.Seq2[int, place] {
	return func(yield func(int, place) bool) {
		kind := 0
		row := func(suit, ranks int) bool {
			for rank := range ranks {
				if !yield(kind, place{suit, rank, ranks}) {
					return false
				}
				kind++
			}
			return true
		}
		for suit, ranks := range s.Suits {
			if !row(suit, ranks) {
				return
			}
		}
		_ = row(windSuit, s.Winds) && row(dragonSuit, s.Dragons) && row(flowerSuit, s.Flowers)
	}
}

// find returns the place of a kind, and whether the set is valid and has the kind.
func find(s api.Set, kind int) (place, bool) {
	if !valid(s) {
		return place{}, false
	}
	for k, p := range kinds(s) {
		if k == kind {
			return p, true
		}
	}
	return place{}, false
}

// at returns the kind with a rank of a suit of a valid set, and whether there is one.
func at(s api.Set, suit, rank int) (int, bool) {
	for k, p := range kinds(s) {
		if p.suit == suit && p.rank == rank {
			return k, true
		}
	}
	return 0, false
}

// Place returns the suit and the rank of a kind: -1, -2 and -3 stand for winds, dragons and flowers; -4 and 0 if there is no such kind.
func Place(s api.Set, kind int) (suit, rank int) {
	p, ok := find(s, kind)
	if !ok {
		return noSuit, 0
	}
	return p.suit, p.rank
}

// Runs reports whether a kind, the next and the one after that are ranks of one suit.
func Runs(s api.Set, kind int) bool {
	p, ok := find(s, kind)
	return ok && p.suit >= 0 && p.rank+2 < p.ranks
}

// Orphans returns the first and the last rank of each suit, the winds and the dragons, ascending.
func Orphans(s api.Set) []int {
	if !valid(s) {
		return nil
	}
	var list []int
	for k, p := range kinds(s) {
		honour := p.suit == windSuit || p.suit == dragonSuit
		end := p.suit >= 0 && (p.rank == 0 || p.rank == p.ranks-1)
		if honour || end {
			list = append(list, k)
		}
	}
	return list
}

// After returns the kind after a kind, the first one of its suit (winds, dragons, flowers) after the last one; -1 if there is no such kind.
func After(s api.Set, kind int) int {
	p, ok := find(s, kind)
	if !ok {
		return -1
	}
	return kind - p.rank + (p.rank+1)%p.ranks
}

// Mirror returns the mirror of a kind; -1 if there is no such kind.
func Mirror(s api.Set, kind int) int {
	p, ok := find(s, kind)
	if !ok {
		return -1
	}
	if p.suit < 0 {
		return kind
	}
	return kind - p.rank + p.ranks - 1 - p.rank
}

// Swap returns the kind after the suits a and b are swapped, if they can be; -1 if there is no such kind.
func Swap(s api.Set, kind, a, b int) int {
	p, ok := find(s, kind)
	if !ok {
		return -1
	}
	last := len(s.Suits) - 1
	if !between(a, 0, last) || !between(b, 0, last) || s.Suits[a] != s.Suits[b] {
		return kind
	}
	switch p.suit {
	case a:
		kind, _ = at(s, b, p.rank)
	case b:
		kind, _ = at(s, a, p.rank)
	}
	return kind
}

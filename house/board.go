package house

import (
	"sparrow/api"
	"sparrow/tile"
)

// board says of which places of suits there are groups with this Kind.
type board [api.MaxSuits][api.MaxRanks]bool

// board has the groups of the reading that are in what.
func (x *scene) board(what int) board {
	var b board
	for _, g := range x.reading.Groups {
		if suit, rank := tile.Place(x.house.Set, g.Kind); suit >= 0 && among(g, what) {
			b[suit][rank] = true
		}
	}
	return b
}

func (b board) has(suit, rank int) bool { return rank < api.MaxRanks && b[suit][rank] }

// rows counts the places from which on there are groups at so many places of the suit, with the same step between each two.
func (b board) rows(many, step int) int {
	n := 0
	for suit := range b {
		for rank := range b[suit] {
			i := 0
			for i < many && b.has(suit, rank+i*step) {
				i++
			}
			if i == many {
				n++
			}
		}
	}
	return n
}

// colours counts the ranks from which on there are groups in so many suits, with the same step between each two.
func (b board) colours(many, step int) int {
	n := 0
	for rank := range api.MaxRanks {
		if b.spread(many, rank, step, [api.MaxSuits]bool{}) {
			n++
		}
	}
	return n
}

// spread reports whether so many suits, different ones and none of those that are taken, have the rank and those that follow.
func (b board) spread(many, rank, step int, taken [api.MaxSuits]bool) bool {
	if many == 0 {
		return true
	}
	for suit := range b {
		if taken[suit] || !b.has(suit, rank) {
			continue
		}
		next := taken
		next[suit] = true
		if b.spread(many-1, rank+step, step, next) {
			return true
		}
	}
	return false
}

package house

import (
	"slices"

	"sparrow/api"
	"sparrow/shape"
	"sparrow/tile"
)

// windSuit stands for the suit in the place of a wind.
const windSuit = -1

// scene is a winning hand with one of its readings, as conditions see it. Waiting is what was found out about OpWaits.
type scene struct {
	house   api.House
	hand    api.Hand
	reading api.Reading
	win     api.Win
	waiting int
}

// unknown is the Waiting of a scene before somebody asked for it.
const unknown = -1

// newScene returns nil unless all arguments are valid, and r is a reading of the hand.
func newScene(h api.House, x api.Hand, r api.Reading, w api.Win) *scene {
	if CheckWin(h, x, w) != api.OK || !shape.Is(h.Set, h.Forms, x, w.Kind, r) {
		return nil
	}
	return &scene{house: h, hand: x, reading: r, win: w, waiting: unknown}
}

// Value returns the number that a condition is, or 1 if it is a truth that holds.
func Value(h api.House, l []api.Node, x api.Hand, r api.Reading, w api.Win) int {
	at := newScene(h, x, r, w)
	if at == nil {
		return 0
	}
	if _, e := CheckCond(h.Set, l); e != api.OK {
		return 0
	}
	return whole(l)(at)
}

// Holding returns the patterns that hold, ascending, and how often.
func Holding(h api.House, x api.Hand, r api.Reading, w api.Win) []api.Hold {
	at := newScene(h, x, r, w)
	if at == nil {
		return nil
	}
	var holds []api.Hold
	for i, p := range h.Patterns {
		if n := whole(p.Cond)(at); n > 0 {
			holds = append(holds, api.Hold{Pattern: i, Times: min(n, api.MaxValue)})
		}
	}
	return holds
}

// Minor returns how many minor points a winning hand has.
func Minor(h api.House, x api.Hand, r api.Reading, w api.Win) int {
	at := newScene(h, x, r, w)
	if at == nil {
		return 0
	}
	return min(whole(h.Minor)(at), api.MaxMinor)
}

// count is how many groups of the reading are as said.
func (x *scene) count(is func(api.Group) bool) int {
	n := 0
	for _, g := range x.reading.Groups {
		if is(g) {
			n++
		}
	}
	return n
}

// last is the group that has the winning tile.
func (x *scene) last() api.Group { return x.reading.Groups[x.reading.Last] }

// wonAt reports whether the last group is a chow that is won as said; how is 0 for all groups.
func (x *scene) wonAt(how int) bool {
	g := x.last()
	if how == 0 || g.What != api.Chow {
		return how == 0
	}
	suit, rank := tile.Place(x.house.Set, g.Kind)
	at := x.win.Kind - g.Kind
	middle := at == 1
	edge := at == 2 && rank == 0 || at == 0 && rank+3 == x.house.Set.Suits[suit]
	switch how {
	case wonInMiddle:
		return middle
	case wonAtEdge:
		return edge
	}
	return !middle && !edge
}

// groups counts the groups that are as a node says.
func (x *scene) groups(n api.Node) int {
	return x.count(func(g api.Group) bool {
		if !among(g, n.What) || n.Open == onlyOpen && !g.Open || n.Open == onlyClosed && g.Open {
			return false
		}
		tiles := shape.Tiles(x.house.Set, g)
		if n.All {
			return !slices.ContainsFunc(tiles, func(k int) bool { return !inKinds(n.Kinds, k) })
		}
		return slices.ContainsFunc(tiles, func(k int) bool { return inKinds(n.Kinds, k) })
	})
}

// tilesOf counts the tiles of all groups that have one of the kinds.
func (x *scene) tilesOf(kinds []int) int {
	n := 0
	for _, g := range x.reading.Groups {
		for _, k := range shape.Tiles(x.house.Set, g) {
			if inKinds(kinds, k) {
				n++
			}
		}
	}
	return n
}

// winds counts the groups of the wind of the seat, or of the round.
func (x *scene) winds(n api.Node) int {
	wind := x.win.Seat
	if n.N == ofRound {
		wind = x.win.Round
	}
	return x.count(func(g api.Group) bool {
		suit, number := tile.Place(x.house.Set, g.Kind)
		return among(g, n.What) && suit == windSuit && number == wind
	})
}

// twins counts the pairs of equal chows; if closed, only concealed ones.
func (x *scene) twins(closed bool) int {
	var chows [api.MaxKinds]int
	for _, g := range x.reading.Groups {
		if g.What == api.Chow && !(closed && g.Open) {
			chows[g.Kind]++
		}
	}
	n := 0
	for _, many := range chows {
		n += many / 2
	}
	return n
}

// suits counts the suits that have a tile in the groups: no group has tiles of two of them.
func (x *scene) suits() int {
	var seen [api.MaxSuits]bool
	n := 0
	for _, g := range x.reading.Groups {
		if suit, _ := tile.Place(x.house.Set, g.Kind); suit >= 0 && !seen[suit] {
			seen[suit] = true
			n++
		}
	}
	return n
}

// waits counts the kinds for which the hand waited. They are found once only: all patterns of a house may ask for them.
func (x *scene) waits() int {
	if x.waiting == unknown {
		rest := shape.Copy(x.hand)
		rest.Bag[x.win.Kind]--
		x.waiting = len(shape.Waits(x.house.Set, x.house.Forms, rest))
	}
	return x.waiting
}

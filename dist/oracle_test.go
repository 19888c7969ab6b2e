package dist_test

import (
	"iter"
	"slices"

	"sparrow/api"
	"sparrow/shape"
	"sparrow/tile"
)

// The oracle goes through all bags, and knows targets by the chapter's terms alone.

// tilesOf are the kinds of a group's tiles; none for a chow that does not run.
func tilesOf(s api.Set, g api.Group) []int { return shape.Tiles(s, g) }

// room is how many tiles of each kind there are besides melds and a bag (or none); below 0 if these have too many.
func room(s api.Set, melds []api.Group, bag []int) []int {
	left := slices.Repeat([]int{s.Copies}, tile.Kinds(s))
	for _, m := range melds {
		for _, k := range tilesOf(s, m) {
			left[k]--
		}
	}
	for k, n := range bag {
		left[k] -= n
	}
	return left
}

// bags yields all bags of n tiles that have at most as many of each kind as most says, in lexicographic order.
func bags(most []int, n int) iter.Seq[[]int] {
	return func(yield func([]int) bool) {
		counts := make([]int, len(most))
		var fill func(kind, n int) bool
		fill = func(kind, n int) bool {
			if kind == len(most) {
				return n > 0 || yield(slices.Clone(counts))
			}
			for x := range min(most[kind], n) + 1 {
				counts[kind] = x
				if !fill(kind+1, n-x) {
					return false
				}
			}
			return true
		}
		fill(0, n)
	}
}

// world is all bags with which a hand with some melds wins by some forms, in lexicographic order.
type world struct {
	s     api.Set
	melds []api.Group
	wins  [][]int
}

func newWorld(s api.Set, forms []api.Form, melds []api.Group) world {
	w := world{s: s, melds: melds}
	for b := range bags(room(s, melds, nil), 3*(s.Melds-len(melds))+2) {
		if shape.Wins(s, forms, api.Hand{Bag: b, Melds: melds}) {
			w.wins = append(w.wins, b)
		}
	}
	return w
}

// knots are the nine kinds of each straight, for a set with three suits of nine.
func knots(s api.Set) [][]int {
	var list [][]int
	for _, r := range [][]int{{0, 1, 2}, {0, 2, 1}, {1, 0, 2}, {1, 2, 0}, {2, 0, 1}, {2, 1, 0}} {
		var kinds []int
		for k := range 27 {
			if k%9%3 == r[k/9] {
				kinds = append(kinds, k)
			}
		}
		list = append(list, kinds)
	}
	return list
}

// builtWorld is the world of all bags that are put together from some tiles, n melds and a pair; the bags are not in order.
func builtWorld(s api.Set, melds []api.Group, fixed []int, n int) world {
	w := world{s: s, melds: melds}
	most := room(s, melds, nil)
	var all []api.Group
	for k := range most {
		all = append(all, api.Group{What: api.Pung, Kind: k}, api.Group{What: api.Chow, Kind: k})
	}
	var build func(b []int, from, n int)
	add := func(b []int, g api.Group) []int {
		next, kinds := slices.Clone(b), tilesOf(s, g)
		for _, k := range kinds {
			next[k]++
		}
		if len(kinds) == 0 || !within(next, most) {
			return nil
		}
		return next
	}
	build = func(b []int, from, n int) {
		if n > 0 {
			for i := from; i < len(all); i++ {
				if next := add(b, all[i]); next != nil {
					build(next, i, n-1)
				}
			}
			return
		}
		for k := range most {
			if next := add(b, api.Group{What: api.Pair, Kind: k}); next != nil {
				w.wins = append(w.wins, next)
			}
		}
	}
	build(bag(s, fixed...), 0, n)
	return w
}

// within reports whether no count of a is greater than that of b.
func within(a, b []int) bool {
	for k := range a {
		if a[k] > b[k] {
			return false
		}
	}
	return true
}

// lackOf is how many tiles the target b has that the bag a has not.
func lackOf(a, b []int) int {
	n := 0
	for k := range b {
		n += max(0, b[k]-a[k])
	}
	return n
}

// nearest returns the distance of a bag (-1 if there is no target), the nearest target, and the kinds of which some target with the least lack has more.
func (w world) nearest(bag, seen []int) (distance int, nearest, more []int) {
	most := room(w.s, w.melds, seen)
	distance = -1
	wanted := make([]bool, len(most))
	for _, b := range w.wins {
		n := lackOf(bag, b)
		if !within(b, most) || distance >= 0 && n > distance {
			continue
		}
		if distance < 0 || n < distance {
			distance, nearest = n, b
			clear(wanted)
		}
		if slices.Compare(b, nearest) < 0 {
			nearest = b
		}
		for k := range b {
			wanted[k] = wanted[k] || b[k] > bag[k]
		}
	}
	for k, x := range wanted {
		if x {
			more = append(more, k)
		}
	}
	return distance, nearest, more
}

// improving are the kinds that improve a hand at rest, found as the chapter says: by the distances with one tile more.
func (w world) improving(bag, seen []int) []int {
	before, _, _ := w.nearest(bag, seen)
	left := room(w.s, w.melds, bag)
	var kinds []int
	for k := range bag {
		if left[k]-at(seen, k) < 1 {
			continue
		}
		next := slices.Clone(bag)
		next[k]++
		if n, _, _ := w.nearest(next, seen); before > 0 && n < before {
			kinds = append(kinds, k)
		}
	}
	return kinds
}

// at is a count of a bag; nothing was seen in an empty one.
func at(bag []int, kind int) int {
	if len(bag) == 0 {
		return 0
	}
	return bag[kind]
}

// choices are the choices of a full hand.
func (w world) choices(bag, seen []int) []api.Choice {
	var list []api.Choice
	for k, n := range bag {
		if n == 0 {
			continue
		}
		rest, gone := slices.Clone(bag), make([]int, len(bag))
		copy(gone, seen)
		rest[k]--
		gone[k]++
		c := api.Choice{Kind: k}
		c.After, _, _ = w.nearest(rest, gone)
		if c.After >= 0 {
			c.Kinds = w.improving(rest, gone)
		}
		left := room(w.s, w.melds, rest)
		for _, x := range c.Kinds {
			c.Left += left[x] - gone[x]
		}
		list = append(list, c)
	}
	return list
}

func sameChoice(a, b api.Choice) bool {
	return a.Kind == b.Kind && a.After == b.After && slices.Equal(a.Kinds, b.Kinds) && a.Left == b.Left
}

// bestOf is the kind of the best of some choices, and whether there is one.
func bestOf(l []api.Choice) (int, bool) {
	best := api.Choice{After: -1}
	for _, c := range l {
		if c.After >= 0 && (best.After < 0 || c.After < best.After || c.After == best.After && c.Left > best.Left) {
			best = c
		}
	}
	return best.Kind, best.After >= 0
}

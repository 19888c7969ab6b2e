package shape

import (
	"cmp"
	"slices"

	"sparrow/api"
	"sparrow/tile"
)

// sizes are how many tiles groups of one kind have, by What.
var sizes = [...]int{api.Pung: 3, api.Kong: 4, api.Pair: 2, api.Single: 1}

// counts are how many tiles there are of each plain kind; those behind the last kind of the set are 0.
type counts [api.MaxKinds]int

// add adds the tiles of a group n times; a negative n takes them away.
func (c *counts) add(g api.Group, n int) {
	if g.What != api.Chow {
		c[g.Kind] += n * sizes[g.What]
		return
	}
	for k := g.Kind; k < g.Kind+3; k++ {
		c[k] += n
	}
}

// ground is a valid set, with what the search asks of its plain kinds again and again.
type ground struct {
	kinds      int
	suit, rank [api.MaxKinds]int
	runs       [api.MaxKinds]bool
}

func newGround(s api.Set) ground {
	g := ground{kinds: tile.Kinds(s)}
	for k := range g.kinds {
		g.suit[k], g.rank[k] = tile.Place(s, k)
		g.runs[k] = tile.Runs(s, k)
	}
	return g
}

// fits reports whether the tiles of a chow (if it is one), a pung or a pair are among the counts.
func (g *ground) fits(x api.Group, c *counts) bool {
	if x.What != api.Chow {
		return c[x.Kind] >= sizes[x.What]
	}
	return g.runs[x.Kind] && c[x.Kind] > 0 && c[x.Kind+1] > 0 && c[x.Kind+2] > 0
}

// Splits returns all splits of a bag, ascending.
func Splits(s api.Set, bag []int) [][]api.Group {
	if tile.Check(s) != api.OK || checkBag(s, bag) != api.OK {
		return nil
	}
	if n := sum(bag); n%3 != 2 || n > whole(s) {
		return nil
	}
	g := newGround(s)
	return g.splits(total(api.Hand{Bag: bag}))
}

// splits returns all splits of some tiles, ascending. The groups that begin with the lowest kind that is left are tried by What, never falling, so that each split is found once.
func (g *ground) splits(left counts) [][]api.Group {
	var found [][]api.Group
	var groups []api.Group
	var search func(kind, least int, paired bool)
	search = func(kind, least int, paired bool) {
		for kind < g.kinds && left[kind] == 0 {
			kind, least = kind+1, api.Chow
		}
		if kind == g.kinds {
			if paired {
				found = append(found, ordered(groups))
			}
			return
		}
		for _, what := range [...]int{api.Chow, api.Pung, api.Pair} {
			x := api.Group{What: what, Kind: kind}
			pair := what == api.Pair
			if what < least || pair && paired || !g.fits(x, &left) {
				continue
			}
			left.add(x, -1)
			groups = append(groups, x)
			search(kind, what, paired || pair)
			groups = groups[:len(groups)-1]
			left.add(x, 1)
		}
	}
	search(0, api.Chow, false)
	slices.SortFunc(found, compareLists)
	return found
}

func compareGroups(a, b api.Group) int {
	return cmp.Or(cmp.Compare(a.What, b.What), cmp.Compare(a.Kind, b.Kind))
}

func compareLists(a, b []api.Group) int { return slices.CompareFunc(a, b, compareGroups) }

// ordered is a copy of some groups, in order.
func ordered(l []api.Group) []api.Group {
	l = copied(l)
	slices.SortFunc(l, compareGroups)
	return l
}

package dist

import (
	"cmp"
	"slices"

	"sparrow/api"
	"sparrow/shape"
	"sparrow/tile"
)

// Choices returns where each discard of a full hand leads.
func Choices(s api.Set, forms []api.Form, h api.Hand, seen []int) ([]api.Choice, api.Errno) {
	if e := Check(s, forms, h, seen); e != api.OK {
		return nil, e
	}
	if !shape.Full(s, h) {
		return nil, api.ErrState
	}
	var list []api.Choice
	for kind, n := range h.Bag {
		if n > 0 {
			list = append(list, choice(s, forms, h, seen, kind))
		}
	}
	return list, api.OK
}

// choice is what becomes of a full hand without a tile of a kind.
func choice(s api.Set, forms []api.Form, h api.Hand, seen []int, kind int) api.Choice {
	rest := shape.Copy(h)
	rest.Bag[kind]--
	gone := make([]int, len(rest.Bag))
	copy(gone, seen)
	gone[kind]++
	q := newSearch(s, forms, rest, gone)
	after := q.distance()
	if after < 0 {
		return api.Choice{Kind: kind, After: after}
	}
	kinds := slices.Collect(q.improving())
	return api.Choice{Kind: kind, After: after, Kinds: kinds, Left: Left(s, rest, gone, kinds)}
}

// Best returns the kind of the best choice of a full hand.
func Best(s api.Set, forms []api.Form, h api.Hand, seen []int) (int, api.Errno) {
	list, e := Choices(s, forms, h, seen)
	if e != api.OK {
		return 0, e
	}
	list = slices.DeleteFunc(list, func(c api.Choice) bool { return c.After < 0 })
	if len(list) == 0 {
		return 0, api.ErrMissing
	}
	best := first(list,
		func(c api.Choice) int { return c.After },
		func(c api.Choice) int { return -c.Left },
		func(c api.Choice) int { return c.Kind })
	return best.Kind, api.OK
}

// first returns the element of a list, not an empty one, whose first key is the least; of several the one whose next key is the least, and so on.
func first[E any, K cmp.Ordered](list []E, keys ...func(E) K) E {
	return slices.MinFunc(list, func(a, b E) int {
		order := 0
		for _, key := range keys {
			order = cmp.Or(order, cmp.Compare(key(a), key(b)))
		}
		return order
	})
}

// Calls returns the melds that a hand at rest can call with a discarded tile, and where they lead; before says that the player before has discarded it.
func Calls(s api.Set, forms []api.Form, h api.Hand, seen []int, kind int, before bool) ([]api.Call, api.Errno) {
	if e := Check(s, forms, h, seen); e != api.OK {
		return nil, e
	}
	if shape.Full(s, h) {
		return nil, api.ErrState
	}
	if kind < 0 || kind >= tile.Kinds(s) {
		return nil, api.ErrRange
	}
	if Left(s, h, seen, []int{kind}) == 0 {
		return nil, api.ErrFull
	}
	if len(h.Melds) == s.Melds {
		return nil, api.OK
	}
	var list []api.Call
	for _, g := range meldsWith(kind, before) {
		if after, ok := called(s, h, kind, g); ok {
			list = append(list, api.Call{Group: g, After: newSearch(s, forms, after, seen).distance()})
		}
	}
	return list, api.OK
}

// meldsWith are the open melds with a tile of a kind, as they are ordered in calls; chows among them may not run.
func meldsWith(kind int, before bool) []api.Group {
	var list []api.Group
	if before {
		for low := kind - 2; low <= kind; low++ {
			list = append(list, api.Group{What: api.Chow, Kind: low, Open: true})
		}
	}
	return append(list, api.Group{What: api.Pung, Kind: kind, Open: true}, api.Group{What: api.Kong, Kind: kind, Open: true})
}

// called is a hand after the call of a tile for a meld, and whether it has the other tiles of the meld.
func called(s api.Set, h api.Hand, kind int, g api.Group) (api.Hand, bool) {
	after := shape.Copy(h)
	after.Bag[kind]++
	tiles := shape.Tiles(s, g)
	for _, k := range tiles {
		after.Bag[k]--
	}
	after.Melds = append(after.Melds, g)
	return after, len(tiles) > 0 && slices.Min(after.Bag) >= 0
}

package table

import (
	"slices"

	"sparrow/api"
)

// with returns a list of tiles with some more, ascending, in memory of its own.
func with(l []int, tiles ...int) []int {
	return slices.Sorted(slices.Values(slices.Concat(l, tiles)))
}

// without returns a list without some tiles, in memory of its own.
func without(l []int, tiles ...int) []int {
	return slices.DeleteFunc(slices.Clone(l), func(t int) bool { return slices.Contains(tiles, t) })
}

// copied copies lists of plain values; slices.Clone keeps the memory of an empty list.
func copied[T any](l []T) []T { return append([]T(nil), l...) }

func copyDeal(d api.Deal) api.Deal {
	d.Live, d.Dead, d.Banned = copied(d.Live), copied(d.Dead), copied(d.Banned)
	d.Players = copied(d.Players)
	for i, p := range d.Players {
		d.Players[i] = copyPlayer(p)
	}
	d.Said = copied(d.Said)
	for i := range d.Said {
		d.Said[i].Tiles = copied(d.Said[i].Tiles)
	}
	d.Result = copyResult(d.Result)
	return d
}

func copyPlayer(p api.Player) api.Player {
	p.Hand, p.Melds, p.Flowers, p.River = copied(p.Hand), copyMelds(p.Melds), copied(p.Flowers), copied(p.River)
	return p
}

func copyMelds(l []api.Meld) []api.Meld {
	l = copied(l)
	for i := range l {
		l[i].Tiles = copied(l[i].Tiles)
	}
	return l
}

func copyResult(r api.Result) api.Result {
	r.Wins, r.Ready, r.Fouls, r.Sticks = copied(r.Wins), copied(r.Ready), copied(r.Fouls), copied(r.Sticks)
	return r
}

package table

import (
	"slices"

	"sparrow/api"
	"sparrow/score"
	"sparrow/shape"
	"sparrow/tile"
)

// handOf returns a hand of concealed tiles and declared melds; flowers, which can be among the tiles only where the wall was too short for the first hands, are left out, so that such a hand waits for nothing.
func (m *machine) handOf(tiles []int, melds []api.Meld) api.Hand {
	bag, _ := tile.Bag(m.house.Set, tiles)
	hand := api.Hand{Bag: bag}
	for _, d := range melds {
		hand.Melds = append(hand.Melds, d.Group)
	}
	return hand
}

// waitsOf returns the waits of a hand of concealed tiles and declared melds.
func (m *machine) waitsOf(tiles []int, melds []api.Meld) []int {
	return shape.Waits(m.house.Set, m.house.Forms, m.handOf(tiles, melds))
}

func (m *machine) waits(seat int) []int {
	return m.waitsOf(m.Players[seat].Hand, m.Players[seat].Melds)
}

// barred reports whether a seat may win no claimed tile.
func (m *machine) barred(seat int) bool {
	if !m.house.Play.Furiten {
		return false
	}
	p, waits := m.Players[seat], m.waits(seat)
	return p.Missed || slices.ContainsFunc(p.River, func(d api.Drop) bool { return slices.Contains(waits, m.kind(d.Tile)) })
}

// winning returns the tile with which a seat may win, and whether it drew it.
func (m *machine) winning(seat int) (t int, drawn bool) {
	if seat == m.Turn {
		return m.Drawn, true
	}
	return m.Tile, false
}

// best returns the best score with which a seat wins now, and whether it wins at all.
func (m *machine) best(seat int) (api.Score, bool) {
	p := m.Players[seat]
	t, drawn := m.winning(seat)
	tiles := p.Hand
	if !drawn {
		tiles = with(tiles, t)
	}
	best, e := score.Best(m.house, m.handOf(tiles, p.Melds), api.Win{
		Kind: m.kind(t), Self: drawn,
		Seat: (seat - m.Dealer + len(m.Players)) % len(m.Players), Round: m.Round,
		Flags: m.flags(seat, drawn), Bonus: m.bonus(seat, tiles),
	})
	return best, e == api.OK
}

func (m *machine) wins(seat int) bool {
	_, ok := m.best(seat)
	return ok
}

// flags returns the flags of a win, ascending.
func (m *machine) flags(seat int, drawn bool) []int {
	p := m.Players[seat]
	rows := [...]struct {
		holds bool
		flag  int
	}{
		{p.Riichi > 0, api.FlagRiichi},
		{p.Riichi == 2, api.FlagDouble},
		{p.Once, api.FlagOnce},
		{!drawn && m.How != api.HowDiscard, api.FlagRob},
		{drawn && m.Kong, api.FlagKong},
		{len(m.Live) == 0, api.FlagLast},
		{p.Turns == 0 && m.Calls == 0, api.FlagFirst},
	}
	var flags []int
	for _, r := range rows {
		if r.holds {
			flags = append(flags, r.flag)
		}
	}
	return flags
}

// bonus counts the flowers of a seat, its red tiles, and its tiles that the indicators name.
func (m *machine) bonus(seat int, concealed []int) int {
	p := m.Players[seat]
	tiles := slices.Clone(concealed)
	for _, d := range p.Melds {
		tiles = append(tiles, d.Tiles...)
	}
	indicators := m.indicators(m.house.Play.Under && p.Riichi > 0)
	n := len(p.Flowers)
	for _, t := range tiles {
		if tile.Red(m.house.Set, t) {
			n++
		}
		for _, i := range indicators {
			if m.kind(t) == tile.After(m.house.Set, m.kind(i)) {
				n++
			}
		}
	}
	return min(n, api.MaxValue)
}

// indicators returns the tiles of the dead wall that are shown, and those under them, too.
func (s state) indicators(under bool) []int {
	var tiles []int
	for i := range s.Shown {
		tiles = append(tiles, s.Dead[2*i])
		if under {
			tiles = append(tiles, s.Dead[2*i+1])
		}
	}
	return tiles
}

// row returns what a winner's win is worth.
func (m *machine) row(seat int) api.WinRow {
	best, _ := m.best(seat)
	var fed []api.Fed
	for _, d := range m.Players[seat].Melds {
		fed = append(fed, api.Fed{Group: d.Group, From: d.From})
	}
	return api.WinRow{Who: seat, From: m.Turn, Value: best.Total, Points: best.Points, Liable: score.Liable(m.house, seat, fed)}
}

package table

import (
	"slices"

	"sparrow/api"
	"sparrow/tile"
)

// judgeDiscard: with riichi a seat discards just what it draws.
func (m *machine) judgeDiscard(x api.Message) answer {
	p := m.Players[m.Turn]
	switch {
	case !slices.Contains(p.Hand, x.Tile):
		return refused(api.ErrMissing)
	case p.Riichi > 0 && x.Tile != m.Drawn:
		return refused(api.ErrState)
	case slices.Contains(m.Banned, m.kind(x.Tile)):
		return refused(api.ErrClash)
	}
	return answer{next: m.discard}
}

func (m *machine) judgeRiichi(x api.Message) answer {
	p, play := m.Players[m.Turn], m.house.Play
	switch {
	case !slices.Contains(p.Hand, x.Tile):
		return refused(api.ErrMissing)
	case !play.Riichi || p.Riichi > 0 || p.Dead || slices.ContainsFunc(p.Melds, isOpen) || len(m.Live) < play.Last:
		return refused(api.ErrState)
	case len(m.waitsOf(without(p.Hand, x.Tile), p.Melds)) == 0:
		return refused(api.ErrForm)
	}
	return answer{next: m.discard}
}

func isOpen(d api.Meld) bool { return d.Group.Open }

// mayKong reports whether the seat Turn may declare kongs at all.
func (m *machine) mayKong() bool {
	return !m.Players[m.Turn].Dead && m.Drawn != none && len(m.Live) > 0
}

func (m *machine) judgeClosed(x api.Message) answer {
	p := m.Players[m.Turn]
	switch {
	case !slices.Contains(p.Hand, x.Tile):
		return refused(api.ErrMissing)
	case len(m.ofKind(p.Hand, m.kind(x.Tile))) < 4:
		return refused(api.ErrForm)
	case !m.mayKong() || p.Riichi > 0 && !m.keepsWaits(m.kind(x.Tile)):
		return refused(api.ErrState)
	}
	return answer{next: m.closeKong}
}

// ofKind returns the tiles of a kind in a list.
func (m *machine) ofKind(l []int, kind int) []int {
	return slices.DeleteFunc(slices.Clone(l), func(t int) bool { return m.kind(t) != kind })
}

// keepsWaits reports whether a closed kong is of the kind that was drawn, and leaves the waits as they were before the draw.
func (m *machine) keepsWaits(kind int) bool {
	p := m.Players[m.Turn]
	if m.kind(m.Drawn) != kind {
		return false
	}
	kong := m.closedKong(p, kind)
	before := m.waitsOf(without(p.Hand, m.Drawn), p.Melds)
	after := m.waitsOf(without(p.Hand, kong.Tiles...), append(copyMelds(p.Melds), kong))
	return slices.Equal(before, after)
}

func (m *machine) closedKong(p api.Player, kind int) api.Meld {
	return api.Meld{Group: api.Group{What: api.Kong, Kind: kind}, Tiles: m.ofKind(p.Hand, kind), From: m.Turn}
}

func (m *machine) judgeAdd(x api.Message) answer {
	p := m.Players[m.Turn]
	switch {
	case !slices.Contains(p.Hand, x.Tile):
		return refused(api.ErrMissing)
	case pungOf(p, m.kind(x.Tile)) < 0:
		return refused(api.ErrForm)
	case !m.mayKong():
		return refused(api.ErrState)
	}
	return answer{next: m.addKong}
}

// pungOf returns the number of a seat's declared pung of a kind; below 0 if there is none.
func pungOf(p api.Player, kind int) int {
	return slices.IndexFunc(p.Melds, func(d api.Meld) bool { return d.Group.What == api.Pung && d.Group.Kind == kind })
}

func (m *machine) judgeSelf(api.Message) answer {
	switch {
	case m.Players[m.Turn].Dead || m.Drawn == none:
		return refused(api.ErrState)
	case !m.wins(m.Turn):
		return m.fouled()
	}
	return answer{next: m.selfDraw}
}

func (m *machine) judgeNines(api.Message) answer {
	p, nines := m.Players[m.Turn], m.house.Play.Nines
	if nines == 0 || p.Turns > 0 || m.Calls > 0 || m.Drawn == none || m.orphans(p.Hand) < nines {
		return refused(api.ErrState)
	}
	return answer{next: m.abort}
}

// orphans counts the different orphans among some tiles.
func (m *machine) orphans(tiles []int) int {
	n := 0
	for _, kind := range tile.Orphans(m.house.Set) {
		if len(m.ofKind(tiles, kind)) > 0 {
			n++
		}
	}
	return n
}

// discard moves the tile to the river, with riichi or without, and lets the others claim it.
func (m *machine) discard() step {
	p, t, riichi := &m.Players[m.Turn], m.doing.Tile, m.doing.Kind == api.SayRiichi
	p.Hand = without(p.Hand, t)
	p.River = append(p.River, api.Drop{Tile: t, Riichi: riichi})
	p.Turns++
	p.Once = p.Once && riichi
	m.clear()
	m.ask(api.HowDiscard)
	return m.listen
}

// closeKong and addKong let the others claim the tile of a kong, where the house has it so; the tiles stay where they are until then.
func (m *machine) closeKong() step {
	m.ask(api.HowClosed)
	if m.house.Play.Rob < 2 {
		return m.layKong
	}
	return m.listen
}

func (m *machine) addKong() step {
	m.ask(api.HowAdded)
	if m.house.Play.Rob < 1 {
		return m.layKong
	}
	return m.listen
}

func (m *machine) selfDraw() step {
	m.winners = []int{m.Turn}
	return m.win
}

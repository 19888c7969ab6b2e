package table

import (
	"slices"

	"sparrow/api"
	"sparrow/tile"
)

// windSuit is what tile.Place returns instead of a suit for winds.
const windSuit = -1

// ask begins claims for the tile that the seat Turn said.
func (m *machine) ask(how int) {
	m.Phase, m.Tile, m.How, m.Since, m.Said = api.PhaseClaims, m.doing.Tile, how, m.doing.Tick, nil
}

// spoke reports whether a seat said something in these claims.
func (s state) spoke(seat int) bool {
	return slices.ContainsFunc(s.Said, func(x api.Message) bool { return x.Who == seat })
}

func (m *machine) judgePass(api.Message) answer { return answer{next: m.speak} }

func (m *machine) judgeChow(x api.Message) answer {
	if !m.house.Play.Chows || x.Who != m.next() {
		return refused(api.ErrState)
	}
	return m.judgeCall(x, 2, m.isChow)
}

func (m *machine) judgePung(x api.Message) answer { return m.judgeCall(x, 2, m.isOneKind) }

func (m *machine) judgeKong(x api.Message) answer { return m.judgeCall(x, 3, m.isOneKind) }

// judgeCall finds the answer to the call of a meld, with so many tiles of the hand, that has to be of some form.
func (m *machine) judgeCall(x api.Message, many int, formed func(tiles []int) bool) answer {
	p := m.Players[x.Who]
	switch {
	case m.How != api.HowDiscard || p.Riichi > 0 || len(m.Live) == 0:
		return refused(api.ErrState)
	case len(x.Tiles) != many:
		return refused(api.ErrForm)
	case len(p.Hand)-len(without(p.Hand, x.Tiles...)) != many:
		return refused(api.ErrMissing)
	case !formed(with(x.Tiles, m.Tile)):
		return refused(api.ErrForm)
	case m.leavesBanned(p, x):
		return refused(api.ErrClash)
	}
	return answer{next: m.speak}
}

// isChow and isOneKind look at ascending tiles, whose kinds ascend, too.
func (m *machine) isChow(tiles []int) bool {
	k := m.kind(tiles[0])
	return tile.Runs(m.house.Set, k) && m.kind(tiles[1]) == k+1 && m.kind(tiles[2]) == k+2
}

func (m *machine) isOneKind(tiles []int) bool {
	return m.kind(tiles[0]) == m.kind(tiles[len(tiles)-1])
}

// leavesBanned reports whether after a call only tiles of banned kinds would be left.
func (m *machine) leavesBanned(p api.Player, x api.Message) bool {
	banned := m.bannedAfter(x)
	return !slices.ContainsFunc(without(p.Hand, x.Tiles...), func(t int) bool { return !slices.Contains(banned, m.kind(t)) })
}

// bannedAfter returns the kinds that are banned after a call, ascending: what could have completed the meld from the other end, too.
func (m *machine) bannedAfter(x api.Message) []int {
	if !m.house.Play.Swap || x.Kind == api.SayKong {
		return nil
	}
	c := m.kind(m.Tile)
	if x.Kind == api.SayPung {
		return []int{c}
	}
	k := m.kind(with(x.Tiles, m.Tile)[0])
	switch {
	case c == k && tile.Runs(m.house.Set, k+1):
		return []int{k, k + 3}
	case c == k+2 && tile.Runs(m.house.Set, k-1):
		return []int{k - 1, k + 2}
	}
	return []int{c}
}

func (m *machine) judgeWin(x api.Message) answer {
	if m.barred(x.Who) || !m.wins(x.Who) {
		return m.fouled()
	}
	return answer{next: m.speak}
}

func (m *machine) judgeClock(x api.Message) answer {
	if x.Tick < m.Since+m.house.Play.Time {
		return refused(api.ErrState)
	}
	return answer{next: m.decide}
}

// speak keeps what a seat said, without what it does not use.
func (m *machine) speak() step {
	x := m.doing
	x.Tile = none
	if x.Kind == api.SayPass || x.Kind == api.SayWin {
		x.Tiles = nil
	}
	x.Tiles = with(x.Tiles)
	m.Said = append(m.Said, x)
	return m.listen
}

// listen waits until each seat that can has said something.
func (m *machine) listen() step {
	for _, seat := range m.others() {
		if !m.spoke(seat) {
			return nil
		}
	}
	return m.decide
}

// decide begins with the claims of wins.
func (m *machine) decide() step {
	m.winners = nil
	for _, seat := range m.others() {
		if _, ok := m.claimOf(seat, api.SayWin); ok {
			m.winners = append(m.winners, seat)
		}
	}
	heads := m.house.Play.Heads
	switch {
	case len(m.winners) == 0:
		return m.unclaimed
	case heads == 2 && len(m.winners) == 3:
		return m.abort
	case heads == 1:
		m.winners = m.winners[:1]
	}
	return m.win
}

// claimOf returns what a seat said, if it is of one of these kinds.
func (m *machine) claimOf(seat int, kinds ...int) (api.Message, bool) {
	i := slices.IndexFunc(m.Said, func(x api.Message) bool { return x.Who == seat && slices.Contains(kinds, x.Kind) })
	if i < 0 {
		return api.Message{}, false
	}
	return m.Said[i], true
}

// unclaimed goes on where nobody wins: who waits for the tile has missed it.
func (m *machine) unclaimed() step {
	for _, seat := range m.others() {
		if slices.Contains(m.waits(seat), m.kind(m.Tile)) {
			m.Players[seat].Missed = true
		}
	}
	if m.How != api.HowDiscard {
		return m.layKong
	}
	return m.passed
}

// passed makes riichi count, since nobody won the discard; then the deal may be aborted.
func (m *machine) passed() step {
	p := &m.Players[m.Turn]
	if p.River[len(p.River)-1].Riichi {
		p.Riichi, p.Once = 1, true
		if p.Turns == 1 && m.Calls == 0 {
			p.Riichi = 2
		}
	}
	if m.allRiichi() || m.sameWinds() {
		return m.abort
	}
	return m.award
}

func (m *machine) allRiichi() bool {
	return m.house.Play.Riichis && len(m.sticks()) == len(m.Players)
}

// sameWinds reports whether all seats discarded the same wind, in a first row without calls.
func (m *machine) sameWinds() bool {
	if !m.house.Play.Winds || m.Calls > 0 {
		return false
	}
	kind := m.kind(m.Tile)
	suit, _ := tile.Place(m.house.Set, kind)
	differs := func(p api.Player) bool { return p.Turns != 1 || m.kind(p.River[0].Tile) != kind }
	return suit == windSuit && !slices.ContainsFunc(m.Players, differs)
}

// award carries out a kong or a pung, otherwise a chow; otherwise the next seat draws.
func (m *machine) award() step {
	for _, kinds := range [][]int{{api.SayKong, api.SayPung}, {api.SayChow}} {
		for _, seat := range m.others() {
			if x, ok := m.claimOf(seat, kinds...); ok {
				m.doing = x
				return m.call
			}
		}
	}
	m.seat = m.next()
	return m.draw
}

// call carries out the call of a meld.
func (m *machine) call() step {
	x, from := m.doing, m.Turn
	river := m.Players[from].River
	river[len(river)-1].Taken = true
	tiles, banned := with(x.Tiles, m.Tile), m.bannedAfter(x)
	p := &m.Players[x.Who]
	p.Hand = without(p.Hand, x.Tiles...)
	p.Melds = append(p.Melds, api.Meld{Group: api.Group{What: whatOf(x.Kind), Kind: m.kind(tiles[0]), Open: true}, Tiles: tiles, From: from})
	p.Missed = false
	m.count()
	m.seat = x.Who
	m.takeTurn(none)
	m.Banned = banned
	if x.Kind == api.SayKong {
		return m.afterKong
	}
	return nil
}

// whatOf returns what is called by a kind of message.
func whatOf(kind int) int {
	switch kind {
	case api.SayChow:
		return api.Chow
	case api.SayPung:
		return api.Pung
	}
	return api.Kong
}

// count counts a call or a kong: it ends what is so only before the next one.
func (m *machine) count() {
	m.Calls++
	for i := range m.Players {
		m.Players[i].Once = false
	}
}

// layKong carries out the kong of the seat Turn, closed or added.
func (m *machine) layKong() step {
	p, kind := &m.Players[m.Turn], m.kind(m.Tile)
	if m.How == api.HowClosed {
		p.Melds = append(p.Melds, m.closedKong(*p, kind))
		p.Hand = without(p.Hand, m.ofKind(p.Hand, kind)...)
	} else {
		d := &p.Melds[pungOf(*p, kind)]
		d.Group.What, d.Tiles = api.Kong, with(d.Tiles, m.Tile)
		p.Hand = without(p.Hand, m.Tile)
	}
	m.count()
	m.seat = m.Turn
	return m.afterKong
}

// afterKong shows an indicator, and replaces a tile, unless there are too many kongs.
func (m *machine) afterKong() step {
	if m.house.Play.Show && len(m.Dead) >= 2*m.Shown+2 {
		m.Shown++
	}
	if m.tooManyKongs() {
		return m.abort
	}
	return m.replace
}

// tooManyKongs: the kongs of one seat alone are never too many.
func (m *machine) tooManyKongs() bool {
	kongs, seats := 0, 0
	for _, p := range m.Players {
		n := 0
		for _, d := range p.Melds {
			if d.Group.What == api.Kong {
				n++
			}
		}
		kongs += n
		seats += min(n, 1)
	}
	return m.house.Play.Kongs > 0 && kongs >= m.house.Play.Kongs && seats >= 2
}

package table

import (
	"slices"

	"sparrow/api"
	"sparrow/tile"
)

// step is something to be done at a table. It returns what is to be done next; nil if a seat has to say something, or the deal is over.
type step func() step

// machine leads a deal on, from one message to the next one: in a state of its own it knows the message that is being carried out, the seat that draws or calls, and who wins.
type machine struct {
	state
	doing   api.Message
	seat    int
	winners []int
}

// machine returns a machine that goes on from a table.
func (t Table) machine() *machine {
	return &machine{state: state{t.state.house, copyDeal(t.state.Deal)}}
}

// run does one step after the other, and returns the table after them.
func (m *machine) run(s step) Table {
	for s != nil {
		s = s()
	}
	kept := m.state
	return Table{&kept}
}

// inTurn returns the seats in turn from a seat.
func (m *machine) inTurn(from int) []int {
	seats := make([]int, len(m.Players))
	for i := range seats {
		seats[i] = (from + i) % len(seats)
	}
	return seats
}

// others returns the seats that are waited for in claims, in turn from Turn.
func (m *machine) others() []int {
	return slices.DeleteFunc(m.inTurn(m.Turn), func(seat int) bool { return seat == m.Turn || m.Players[seat].Dead })
}

func (m *machine) next() int { return (m.Turn + 1) % len(m.Players) }

func (m *machine) kind(t int) int { return tile.Kind(m.house.Set, t) }

// isFlower: flowers are the kinds behind all plain ones.
func (m *machine) isFlower(t int) bool { return m.kind(t) >= tile.Kinds(m.house.Set) }

// begin replaces the flowers of each seat, in turn from the dealer; then the dealer draws.
func (m *machine) begin() step {
	for _, seat := range m.inTurn(m.Dealer) {
		p := &m.Players[seat]
		for i := slices.IndexFunc(p.Hand, m.isFlower); i >= 0; i = slices.IndexFunc(p.Hand, m.isFlower) {
			p.Flowers = append(p.Flowers, p.Hand[i])
			p.Hand = slices.Delete(p.Hand, i, i+1)
			t, ok := m.last()
			if !ok {
				return m.exhaust
			}
			p.Hand = with(p.Hand, t)
		}
	}
	m.seat = m.Dealer
	return m.draw
}

// first and last take a tile from an end of the live wall, if there is one.
func (m *machine) first() (int, bool) {
	if len(m.Live) == 0 {
		return none, false
	}
	t := m.Live[0]
	m.Live = m.Live[1:]
	return t, true
}

func (m *machine) last() (int, bool) {
	n := len(m.Live)
	if n == 0 {
		return none, false
	}
	t := m.Live[n-1]
	m.Live = m.Live[:n-1]
	return t, true
}

// plain takes a tile for the seat, and the last tile of the live wall instead as long as it is a flower.
func (m *machine) plain(take func() (int, bool)) (int, bool) {
	p := &m.Players[m.seat]
	t, ok := take()
	for ok && m.isFlower(t) {
		p.Flowers = append(p.Flowers, t)
		t, ok = m.last()
	}
	return t, ok
}

// draw gives the seat the first tile of the live wall, replace the last one, after a kong.
func (m *machine) draw() step {
	t, ok := m.plain(m.first)
	if !ok {
		return m.exhaust
	}
	p := &m.Players[m.seat]
	p.Hand = with(p.Hand, t)
	p.Missed = p.Missed && p.Riichi > 0
	m.takeTurn(t)
	return nil
}

func (m *machine) replace() step {
	t, ok := m.plain(m.last)
	if !ok {
		return m.exhaust
	}
	p := &m.Players[m.seat]
	p.Hand = with(p.Hand, t)
	m.takeTurn(t)
	m.Kong = true
	return nil
}

// takeTurn makes it the turn of the seat, with the tile that it drew.
func (m *machine) takeTurn(drawn int) {
	m.clear()
	m.Phase, m.Turn, m.Drawn = api.PhaseTurn, m.seat, drawn
}

// clear empties what is used in some phases only.
func (m *machine) clear() {
	m.Tile, m.Drawn, m.How, m.Since = none, none, 0, 0
	m.Kong, m.Said, m.Banned = false, nil, nil
}

// exhaust, abort and win end the deal.
func (m *machine) exhaust() step {
	var ready []int
	for seat, p := range m.Players {
		if !p.Dead && len(m.waits(seat)) > 0 {
			ready = append(ready, seat)
		}
	}
	return m.end(api.Result{What: api.ResultDraw, Ready: ready, Sticks: m.sticks()})
}

func (m *machine) abort() step {
	return m.end(api.Result{What: api.ResultAbort, Sticks: m.sticks()})
}

func (m *machine) win() step {
	r := api.Result{What: api.ResultWin, Sticks: m.sticks()}
	for _, seat := range m.winners {
		r.Wins = append(r.Wins, m.row(seat))
	}
	return m.end(r)
}

// foul ends the deal, or makes the seat dead that spoke; then nobody waits for it.
func (m *machine) foul() step {
	who := m.doing.Who
	if m.house.Play.Foul == api.FoulEnd {
		return m.end(api.Result{What: api.ResultFoul, Fouls: []int{who}})
	}
	m.Players[who].Dead = true
	if m.Phase == api.PhaseClaims {
		return m.listen
	}
	return nil
}

// end ends the deal: nothing is to be done any more.
func (m *machine) end(r api.Result) step {
	m.clear()
	m.Phase, m.Result = api.PhaseOver, r
	return nil
}

// sticks returns the seats with riichi, ascending.
func (m *machine) sticks() []int {
	var seats []int
	for seat, p := range m.Players {
		if p.Riichi > 0 {
			seats = append(seats, seat)
		}
	}
	return seats
}

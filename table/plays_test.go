package table_test

import (
	"slices"
	"sync"
	"testing"

	"sparrow/api"
	"sparrow/table"
	"sparrow/tile"
)

// played is a deal that was played: the tables, one more than what was said.
type played struct {
	deal
	tables []table.Table
	said   []api.Message
}

// spoke reports whether a seat has said something in the claims of a deal.
func spoke(d api.Deal, seat int) bool {
	return slices.ContainsFunc(d.Said, func(m api.Message) bool { return m.Who == seat })
}

// message is something that might be said at a table: mostly what leads on, sometimes a foul or what is refused.
func (d *dice) message(x table.Table) api.Message {
	s := table.State(x)
	m := api.Message{Kind: api.SayDiscard + d.below(api.SayClock), Who: d.below(len(s.Players)), Tick: s.Tick + d.below(2), Tile: d.below(20)}
	switch {
	case d.once(20):
		return m
	case s.Phase == api.PhaseTurn:
		m = d.choice(table.Options(x, s.Turn), api.SaySelf, api.SayNines)
	case d.once(8):
		return api.Message{Kind: api.SayClock, Who: d.below(9), Tick: s.Since + table.House(x).Play.Time, Tile: none}
	default:
		l := table.Options(x, m.Who)
		if len(l) == 0 {
			return m
		}
		m = d.choice(l, api.SayPass, api.SayWin)
	}
	if s.Phase == api.PhaseTurn || s.Tick < s.Since+table.House(x).Play.Time {
		m.Tick += d.below(2)
	}
	return m
}

// choice is one of some options: those of the kinds rare are left out, unless it is once in a while; all other kinds are equally likely.
func (d *dice) choice(l []api.Message, rare ...int) api.Message {
	if d.below(4) > 0 {
		often := slices.DeleteFunc(slices.Clone(l), func(m api.Message) bool { return slices.Contains(rare, m.Kind) })
		if len(often) > 0 {
			l = often
		}
	}
	var kinds []int
	for _, m := range l {
		kinds = append(kinds, m.Kind)
	}
	kinds = slices.Compact(kinds)
	kind := kinds[d.below(len(kinds))]
	l = slices.DeleteFunc(slices.Clone(l), func(m api.Message) bool { return m.Kind != kind })
	return l[d.below(len(l))]
}

// played plays a deal to its end.
func (d *dice) played(t *testing.T, x deal) played {
	t.Helper()
	p := played{deal: x, tables: []table.Table{x.begin(t)}}
	for tries := 0; ; tries++ {
		last := p.tables[len(p.tables)-1]
		if table.Over(last) {
			return p
		}
		if tries > 20000 {
			t.Fatal("the deal does not end", table.State(last))
		}
		m := d.message(last)
		if next, e := table.Do(last, m); e == api.OK {
			p.tables, p.said = append(p.tables, next), append(p.said, m)
		}
	}
}

// most is how many deals of each set are played.
const most = 60

// pool plays the deals of all tests, by sets: once, since that takes more time than most tests.
var pool sync.Once

var plays [][]played

func fillPool(t *testing.T) {
	t.Helper()
	pool.Do(func() {
		d := dice(1)
		for _, s := range sets() {
			var l []played
			for range most {
				l = append(l, d.played(t, d.deal(s)))
			}
			plays = append(plays, l)
		}
	})
}

// eachPlay calls check with deals that were played, so many of each set.
func eachPlay(t *testing.T, seed dice, many int, check func(d *dice, p played)) {
	t.Helper()
	fillPool(t)
	for i, l := range plays {
		for n := range many {
			if check(&seed, l[(int(seed%most)+n)%most]); t.Failed() {
				t.Fatal("in the set", i, "at the deal", n)
			}
		}
	}
}

// eachState calls check with all states of deals that were played, and the message behind them (none behind the last one).
func eachState(t *testing.T, seed dice, many int, check func(d *dice, x table.Table, s api.Deal, next api.Message)) {
	t.Helper()
	eachPlay(t, seed, many, func(d *dice, p played) {
		for i, x := range p.tables {
			next := api.Message{}
			if i < len(p.said) {
				next = p.said[i]
			}
			if check(d, x, table.State(x), next); t.Failed() {
				t.Fatal(table.State(x))
			}
		}
	})
}

// TestPlays: the deals that are played here end in all ways, and have all that can happen in them.
func TestPlays(t *testing.T) {
	what, kinds, how := map[int]int{}, map[int]int{}, map[int]int{}
	dead, missed, banned, several, added := 0, 0, 0, 0, 0
	eachPlay(t, 1, most, func(_ *dice, p played) {
		for i, x := range p.tables {
			s := table.State(x)
			if i < len(p.said) {
				kinds[p.said[i].Kind]++
			}
			how[s.How]++
			if len(s.Banned) > 0 {
				banned++
			}
			for _, q := range s.Players {
				if q.Dead {
					dead++
				}
				if q.Missed {
					missed++
				}
				for _, m := range q.Melds {
					if m.Group.What == api.Kong && m.Group.Open {
						added++
					}
				}
			}
		}
		r, _ := table.Outcome(p.tables[len(p.tables)-1])
		what[r.What]++
		if len(r.Wins) > 1 {
			several++
		}
	})
	for kind := api.SayDiscard; kind <= api.SayClock; kind++ {
		if kinds[kind] < 5 {
			t.Error("the kind", kind, "is said", kinds[kind], "times")
		}
	}
	for r := api.ResultWin; r <= api.ResultFoul; r++ {
		if what[r] < 10 {
			t.Error("the result", r, what[r], "times")
		}
	}
	if how[api.HowAdded] < 3 || how[api.HowClosed] < 3 || dead < 10 || missed < 10 || banned < 10 || several < 1 || added < 3 {
		t.Error(how, dead, missed, banned, several, added)
	}
}

// tilesOf lists the tiles of a deal, wherever they are.
func tilesOf(s api.Deal) []int {
	l := slices.Concat(s.Live, s.Dead)
	for _, p := range s.Players {
		l = slices.Concat(l, p.Hand, p.Flowers)
		for _, m := range p.Melds {
			l = append(l, m.Tiles...)
		}
		for _, d := range p.River {
			if !d.Taken {
				l = append(l, d.Tile)
			}
		}
	}
	return slices.Sorted(slices.Values(l))
}

// TestTiles (P6.7): each tile is at just one place, and the dead wall never changes.
func TestTiles(t *testing.T) {
	eachPlay(t, 2, 15, func(_ *dice, p played) {
		_, _, dead, _ := tile.Deal(p.h.Set, p.wall, p.cut, p.dealer)
		for _, x := range p.tables {
			s := table.State(x)
			l := tilesOf(s)
			for i, n := range l {
				if i != n {
					t.Fatal(s)
				}
			}
			if len(l) != tile.Size(p.h.Set) || !slices.Equal(s.Dead, dead) {
				t.Fatal(s)
			}
		}
	})
}

// TestHandSizes (P6.8): a seat has one tile more just if it is its turn, or its kong that is claimed.
func TestHandSizes(t *testing.T) {
	eachState(t, 3, 15, func(_ *dice, x table.Table, s api.Deal, _ api.Message) {
		if s.Phase == api.PhaseOver {
			return
		}
		for seat, p := range s.Players {
			want := 3*(table.House(x).Set.Melds-len(p.Melds)) + 1
			if seat == s.Turn && s.How != api.HowDiscard {
				want++
			}
			if len(p.Hand) != want {
				t.Error(seat)
			}
		}
	})
}

// TestPhases (P6.4): what is used in a phase is as it should be, and what is not used is 0, -1, false and empty.
func TestPhases(t *testing.T) {
	eachState(t, 4, 15, func(_ *dice, x table.Table, s api.Deal, _ api.Message) {
		turn, plain := s.Players[s.Turn], s.Tile == none && s.How == 0 && s.Since == 0 && len(s.Said) == 0
		drawn := slices.Contains(turn.Hand, s.Drawn)
		ok := false
		switch s.Phase {
		case api.PhaseTurn:
			ok = plain && (s.Drawn == none && !s.Kong || drawn && len(s.Banned) == 0) && len(s.Result.Sticks) == 0 && s.Result.What == 0
		case api.PhaseClaims:
			ok = s.Since <= s.Tick && len(s.Banned) == 0 && s.Result.What == 0
			if s.How == api.HowDiscard {
				last := turn.River[len(turn.River)-1]
				ok = ok && last.Tile == s.Tile && !last.Taken && s.Drawn == none && !s.Kong
			} else {
				ok = ok && drawn && slices.Contains(turn.Hand, s.Tile) && (s.How == api.HowAdded || s.How == api.HowClosed)
			}
			for i, m := range s.Said {
				ok = ok && m.Tile == none && m.Kind >= api.SayPass && m.Kind <= api.SayWin && slices.IsSorted(m.Tiles) && m.Who != s.Turn && s.Since <= m.Tick && m.Tick <= s.Tick && (i == 0 || s.Said[i-1].Tick <= m.Tick)
			}
		case api.PhaseOver:
			ok = plain && s.Drawn == none && !s.Kong && len(s.Banned) == 0 && s.Result.What != 0
		}
		if !ok {
			t.Error("the phase", s.Phase)
		}
		for _, p := range s.Players {
			if !slices.IsSorted(p.Hand) || len(p.River) != p.Turns {
				t.Error(p)
			}
			for _, m := range p.Melds {
				if !slices.IsSorted(m.Tiles) || m.From < 0 || m.From >= len(s.Players) || !matches(table.House(x).Set, m) {
					t.Error(m)
				}
			}
		}
	})
}

// matches reports whether a meld's tiles are those of its group, and whether it is open if it was called.
func matches(s api.Set, m api.Meld) bool {
	var kinds []int
	for _, t := range m.Tiles {
		kinds = append(kinds, tile.Kind(s, t))
	}
	k := m.Group.Kind
	want := map[int][]int{api.Chow: {k, k + 1, k + 2}, api.Pung: {k, k, k}, api.Kong: {k, k, k, k}}
	return slices.Equal(kinds, want[m.Group.What]) && (m.Group.Open || m.Group.What == api.Kong)
}

// TestSee (P6.4): a player sees what is open, and its own hand.
func TestSee(t *testing.T) {
	eachState(t, 5, 8, func(_ *dice, x table.Table, s api.Deal, _ api.Message) {
		for player, p := range s.Players {
			want := api.View{
				You: player, Dealer: s.Dealer, Round: s.Round, Live: len(s.Live), Hand: p.Hand, Phase: s.Phase, Turn: s.Turn, Tile: s.Tile, Drawn: none,
				How: s.How, Since: s.Since, Tick: s.Tick, Said: spoke(s, player), Missed: p.Missed, Result: s.Result,
			}
			for i := range s.Shown {
				want.Indicators = append(want.Indicators, s.Dead[2*i])
			}
			if player == s.Turn {
				want.Drawn, want.Banned = s.Drawn, s.Banned
			}
			for _, q := range s.Players {
				want.Sides = append(want.Sides, api.Side{Tiles: len(q.Hand), Melds: q.Melds, Flowers: q.Flowers, River: q.River, Riichi: q.Riichi, Dead: q.Dead})
			}
			if v := table.See(x, player); !same(v, want) {
				t.Error(v, want)
			}
		}
		for _, player := range []int{-1, len(s.Players), 99} {
			if !same(table.See(x, player), api.View{}) || len(table.Options(x, player)) > 0 {
				t.Error(player)
			}
		}
	})
}

// TestOver (P6.6): a deal is over with a result, or it has none.
func TestOver(t *testing.T) {
	eachState(t, 6, 5, func(_ *dice, x table.Table, s api.Deal, _ api.Message) {
		r, ok := table.Outcome(x)
		if ok != (s.Phase == api.PhaseOver) || table.Over(x) != ok || !same(r, s.Result) || ok != (r.What != 0) {
			t.Error(r, ok)
		}
	})
}

// foul reports whether a message that was accepted was a foul.
func foul(before, after api.Deal, who int) bool {
	return after.Result.What == api.ResultFoul || after.Players[who].Dead && !before.Players[who].Dead
}

// lists are all lists of some tiles, in any order, also with one tile twice.
func lists(tiles []int, many int) [][]int {
	if many == 0 {
		return [][]int{nil}
	}
	var l [][]int
	for _, rest := range lists(tiles, many-1) {
		for _, x := range tiles {
			l = append(l, append([]int{x}, rest...))
		}
	}
	return l
}

// sayable are all messages of a player that Do accepts and that are no fouls, said as Options says them, ascending.
func sayable(x table.Table, player int) []api.Message {
	s := table.State(x)
	n := tile.Size(table.House(x).Set)
	hand := s.Players[player].Hand
	var l []api.Message
	try := func(m api.Message) {
		y, e := table.Do(x, m)
		if e != api.OK || foul(s, table.State(y), player) {
			return
		}
		m.Tiles = slices.Sorted(slices.Values(m.Tiles))
		if m.Kind == api.SayClosed {
			same := func(a int) bool {
				return tile.Kind(table.House(x).Set, a) == tile.Kind(table.House(x).Set, m.Tile)
			}
			m.Tile = hand[slices.IndexFunc(hand, same)]
		}
		l = append(l, m)
	}
	for kind := api.SayDiscard; kind <= api.SayWin; kind++ {
		m := api.Message{Kind: kind, Who: player, Tick: s.Tick, Tile: none}
		switch {
		case kind <= api.SayAdd:
			for m.Tile = -1; m.Tile <= n; m.Tile++ {
				try(m)
			}
		case kind == api.SayChow || kind == api.SayPung || kind == api.SayKong:
			many := 2
			if kind == api.SayKong {
				many = 3
			}
			for _, m.Tiles = range lists(append(slices.Clone(hand), s.Tile), many) {
				try(m)
			}
		default:
			try(m)
		}
	}
	slices.SortFunc(l, inOrder)
	return slices.CompactFunc(l, func(a, b api.Message) bool { return same(a, b) })
}

// inOrder compares messages by Kind, Tile and Tiles.
func inOrder(a, b api.Message) int {
	return slices.Compare(append([]int{a.Kind, a.Tile}, a.Tiles...), append([]int{b.Kind, b.Tile}, b.Tiles...))
}

// TestOptions (P6.5, P6.11): the options are all messages that are accepted and are no fouls, each once, in order.
func TestOptions(t *testing.T) {
	states := 0
	eachState(t, 7, 3, func(d *dice, x table.Table, s api.Deal, _ api.Message) {
		if len(s.Players[0].Hand) > 8 || d.below(len(s.Players[0].Hand)) > 0 {
			return
		}
		states++
		for player := range s.Players {
			if got, want := table.Options(x, player), sayable(x, player); !same(got, want) {
				t.Error(player, got, want)
			}
		}
	})
	if states < 60 {
		t.Error(states)
	}
}

// TestOptionsAreAccepted (P6.11, P6.15): each option is accepted, and is no foul; the seat whose turn it is has always one.
func TestOptionsAreAccepted(t *testing.T) {
	eachState(t, 8, 6, func(_ *dice, x table.Table, s api.Deal, _ api.Message) {
		for player := range s.Players {
			l := table.Options(x, player)
			if s.Phase == api.PhaseTurn && (player == s.Turn) != (len(l) > 0) || s.Phase == api.PhaseOver && len(l) > 0 {
				t.Error(player, l)
			}
			if s.Phase == api.PhaseClaims && (player == s.Turn || s.Players[player].Dead || spoke(s, player)) != (len(l) == 0) {
				t.Error(player, l)
			}
			for _, m := range l {
				if y, e := table.Do(x, m); e != api.OK || foul(s, table.State(y), player) || m.Who != player || m.Tick != s.Tick || m.Kind == api.SayClock {
					t.Error(m, e)
				}
			}
		}
	})
}

// TestEnds (P6.15): each deal ends, and no tile is discarded twice.
func TestEnds(t *testing.T) {
	eachPlay(t, 9, 15, func(_ *dice, p played) {
		var tiles []int
		for _, m := range p.said {
			if m.Kind == api.SayDiscard || m.Kind == api.SayRiichi {
				if slices.Contains(tiles, m.Tile) {
					t.Error(m)
				}
				tiles = append(tiles, m.Tile)
			}
		}
		if !table.Over(p.tables[len(p.tables)-1]) {
			t.Error(p.said)
		}
	})
}

// TestTablesStay (R2, R4): what is said at a table changes neither it, nor any other one.
func TestTablesStay(t *testing.T) {
	eachPlay(t, 10, 5, func(d *dice, p played) {
		var states []api.Deal
		for _, x := range p.tables {
			states = append(states, table.State(x))
		}
		for _, x := range p.tables {
			for range 5 {
				table.Do(x, d.message(x))
			}
		}
		for i, x := range p.tables {
			if !sameDeal(states[i], table.State(x)) {
				t.Error(i, states[i], table.State(x))
			}
		}
	})
}

// TestRunParts (P6.14): two lists, one after the other, lead to where both together lead.
func TestRunParts(t *testing.T) {
	eachPlay(t, 11, 10, func(d *dice, p played) {
		l := p.said
		if d.luck() {
			l = slices.Insert(slices.Clone(l), d.below(len(l)+1), d.message(p.tables[0]))
		}
		cut := d.below(len(l) + 1)
		whole, n, e := table.Run(p.tables[0], l)
		first, k, f := table.Run(p.tables[0], l[:cut])
		if f == api.OK {
			first, k, f = table.Run(first, l[cut:])
			if k >= 0 {
				k += cut
			}
		}
		if n != k || e != f || !sameDeal(table.State(whole), table.State(first)) {
			t.Error(n, k, e, f)
		}
		if e == api.OK && n != -1 || e != api.OK && (n < 0 || n >= len(l)) {
			t.Error(n, e)
		}
	})
}

// TestRunIsDo (P6.3): Run does one message after the other.
func TestRunIsDo(t *testing.T) {
	eachPlay(t, 12, 5, func(_ *dice, p played) {
		for i := 0; i < len(p.tables); i += 1 + i/3 {
			x, n, e := table.Run(p.tables[0], p.said[:i])
			if n != -1 || e != api.OK || !sameDeal(table.State(x), table.State(p.tables[i])) {
				t.Error(i, n, e)
			}
			if i > 0 && table.State(p.tables[i]).Tick != p.said[i-1].Tick {
				t.Error(p.said[i-1])
			}
		}
	})
}

package table_test

import (
	"slices"
	"testing"

	"sparrow/api"
	"sparrow/dist"
	"sparrow/house"
	"sparrow/shape"
	"sparrow/table"
	"sparrow/tile"
)

// handOf is the hand of a seat, with some tiles more, and without others.
func handOf(h api.House, p api.Player, more, less []int) api.Hand {
	tiles := slices.DeleteFunc(slices.Concat(p.Hand, more), func(t int) bool { return slices.Contains(less, t) })
	bag, _ := tile.Bag(h.Set, tiles)
	x := api.Hand{Bag: bag}
	for _, m := range p.Melds {
		x.Melds = append(x.Melds, m.Group)
	}
	return x
}

// atRest is the hand of a seat without what it has just drawn.
func atRest(h api.House, s api.Deal, seat int) api.Hand {
	var drawn []int
	if seat == s.Turn {
		drawn = []int{s.Drawn}
	}
	return handOf(h, s.Players[seat], nil, drawn)
}

func waits(h api.House, x api.Hand) []int { return shape.Waits(h.Set, h.Forms, x) }

// barred reports whether a seat may win no claimed tile.
func barred(h api.House, p api.Player) bool {
	if !h.Play.Furiten || p.Missed {
		return h.Play.Furiten
	}
	w := waits(h, handOf(h, p, nil, nil))
	return slices.ContainsFunc(p.River, func(d api.Drop) bool { return slices.Contains(w, tile.Kind(h.Set, d.Tile)) })
}

// TestOrder (P6.9): claims at one tick, that are no fouls, lead to the same deal in any order.
func TestOrder(t *testing.T) {
	several := 0
	eachState(t, 20, 25, func(d *dice, x table.Table, s api.Deal, _ api.Message) {
		if s.Phase != api.PhaseClaims || len(s.Said) > 0 {
			return
		}
		var l []api.Message
		for seat := range s.Players {
			if options := table.Options(x, seat); len(options) > 0 {
				l = append(l, d.choice(options, api.SayPass))
			}
		}
		claims := slices.DeleteFunc(slices.Clone(l), func(m api.Message) bool { return m.Kind == api.SayPass })
		if len(claims) > 1 {
			several++
		}
		first, n, e := table.Run(x, l)
		if n != -1 || e != api.OK || len(l) > 0 && table.State(first).Phase == api.PhaseClaims {
			t.Fatal(l, n, e)
		}
		for range 3 {
			for i := range l {
				j := d.below(i + 1)
				l[i], l[j] = l[j], l[i]
			}
			if y, _, _ := table.Run(x, l); !sameDeal(table.State(first), table.State(y)) {
				t.Error(l)
			}
		}
	})
	if several < 10 {
		t.Error(several)
	}
}

// shows reports whether a player sees one of two tiles.
func shows(v api.View, a, b int) bool {
	l := slices.Concat(v.Hand, v.Indicators)
	for _, s := range v.Sides {
		for _, m := range s.Melds {
			l = append(l, m.Tiles...)
		}
		for _, d := range s.River {
			l = append(l, d.Tile)
		}
	}
	return slices.Contains(l, a) || slices.Contains(l, b) || v.Tile == a || v.Tile == b
}

// TestHidden (P6.10): if two tiles change places that a player does not see, it sees the same, as long as the same is said.
func TestHidden(t *testing.T) {
	compared := 0
	eachPlay(t, 21, 25, func(d *dice, p played) {
		last := tile.Kinds(p.h.Set) * p.h.Set.Copies
		i, j := d.below(len(p.wall)), d.below(len(p.wall))
		a, b := p.wall[i], p.wall[j]
		if a >= last || b >= last {
			return
		}
		other := p.deal
		other.wall = slices.Clone(p.wall)
		other.wall[i], other.wall[j] = b, a
		y, seen, e := other.begin(t), make([]bool, p.h.Set.Players), api.OK
		for n, x := range p.tables {
			if n > 0 {
				if k := p.said[n-1].Kind; k == api.SaySelf || k == api.SayWin {
					return
				}
				y, e = table.Do(y, p.said[n-1])
			}
			if e != api.OK || table.Over(x) || table.Over(y) {
				return
			}
			for player := range seen {
				v, w := table.See(x, player), table.See(y, player)
				seen[player] = seen[player] || shows(v, a, b) || shows(w, a, b)
				if seen[player] {
					continue
				}
				compared++
				if !same(v, w) {
					t.Error(player, v, w)
				}
			}
		}
	})
	if compared < 500 {
		t.Error(compared)
	}
}

// TestWinners (P6.12): no more seats win a claimed tile than Heads allows, in turn; nobody who is barred or dead does, nor does anybody win without a claim.
func TestWinners(t *testing.T) {
	claimed := 0
	eachPlay(t, 22, most, func(_ *dice, p played) {
		if len(p.said) == 0 {
			return
		}
		before, last := table.State(p.tables[len(p.tables)-2]), p.said[len(p.said)-1]
		r, _ := table.Outcome(p.tables[len(p.tables)-1])
		claims := append(slices.Clone(before.Said), last)
		if (r.What == api.ResultWin) != (len(r.Wins) > 0) {
			t.Error(r)
		}
		behind := 0
		for _, w := range r.Wins {
			q := before.Players[w.Who]
			if q.Dead || w.From != before.Turn {
				t.Error(w)
			}
			if w.Who == w.From {
				if last.Kind != api.SaySelf || len(r.Wins) != 1 {
					t.Error(r)
				}
				continue
			}
			claimed++
			said := slices.ContainsFunc(claims, func(m api.Message) bool { return m.Who == w.Who && m.Kind == api.SayWin })
			n := (w.Who - before.Turn + len(before.Players)) % len(before.Players)
			if n <= behind || !said || barred(p.h, q) {
				t.Error(r)
			}
			behind = n
		}
		if heads := p.h.Play.Heads; heads < 3 && len(r.Wins) > heads {
			t.Error(r)
		}
	})
	if claimed < 30 {
		t.Error(claimed)
	}
}

// TestDead (P6.2, P6.12): a dead seat declares no riichi and no kong, calls nothing, and wins nothing.
func TestDead(t *testing.T) {
	dead := 0
	eachPlay(t, 23, most, func(_ *dice, p played) {
		for i, m := range p.said {
			s := table.State(p.tables[i])
			if m.Kind == api.SayClock || !s.Players[m.Who].Dead {
				continue
			}
			dead++
			if m.Kind != api.SayDiscard && m.Kind != api.SayNines {
				t.Error(m)
			}
		}
	})
	if dead < 100 {
		t.Error(dead)
	}
}

// TestRiichiKeeps (P6.13): a seat with riichi discards just what it draws, calls nothing, and its waits stay the same.
func TestRiichiKeeps(t *testing.T) {
	checked := 0
	eachPlay(t, 24, most, func(_ *dice, p played) {
		kept := make([][]int, p.h.Set.Players)
		for i, x := range p.tables {
			s := table.State(x)
			for seat, q := range s.Players {
				if q.Riichi == 0 || s.Phase == api.PhaseOver {
					continue
				}
				w := waits(p.h, atRest(p.h, s, seat))
				if checked++; kept[seat] == nil {
					kept[seat] = w
				}
				if len(w) == 0 || !slices.Equal(w, kept[seat]) {
					t.Error(seat, w, kept[seat])
				}
			}
			if i == len(p.said) {
				continue
			}
			m := p.said[i]
			if m.Kind == api.SayClock || s.Players[m.Who].Riichi == 0 {
				continue
			}
			if m.Kind == api.SayDiscard && m.Tile != s.Drawn || m.Kind == api.SayRiichi || m.Kind == api.SayAdd || m.Kind >= api.SayChow && m.Kind <= api.SayKong {
				t.Error(m)
			}
		}
	})
	if checked < 300 {
		t.Error(checked)
	}
}

// TestReady (T1): who is ready at the end of a deal has the distance 1; who is not, and is not dead, has a greater one.
func TestReady(t *testing.T) {
	ready := 0
	eachPlay(t, 25, 20, func(_ *dice, p played) {
		last := p.tables[len(p.tables)-1]
		s, r := table.State(last), table.State(last).Result
		if r.What != api.ResultDraw {
			if len(r.Ready) > 0 {
				t.Error(r)
			}
			return
		}
		var want []int
		for seat, q := range s.Players {
			n, e := dist.Distance(p.h.Set, p.h.Forms, handOf(p.h, q, nil, nil), nil)
			if e == api.OK && n == 1 && !q.Dead {
				want = append(want, seat)
			}
		}
		ready += len(want)
		if !slices.Equal(r.Ready, want) {
			t.Error(r, want)
		}
	})
	if ready < 20 {
		t.Error(ready)
	}
}

// TestRiichiChoices (T2): riichi may be declared with just the tiles that leave the distance 1.
func TestRiichiChoices(t *testing.T) {
	found := 0
	eachState(t, 26, 6, func(_ *dice, x table.Table, s api.Deal, _ api.Message) {
		h, p := table.House(x), s.Players[s.Turn]
		open := slices.ContainsFunc(p.Melds, func(m api.Meld) bool { return m.Group.Open })
		if s.Phase != api.PhaseTurn || !h.Play.Riichi || p.Riichi > 0 || p.Dead || open || len(s.Live) < h.Play.Last {
			return
		}
		var want, got []int
		for _, m := range p.Hand {
			if n, e := dist.Distance(h.Set, h.Forms, handOf(h, p, nil, []int{m}), nil); e == api.OK && n == 1 {
				want = append(want, m)
			}
		}
		for _, m := range table.Options(x, s.Turn) {
			if m.Kind == api.SayRiichi {
				got = append(got, m.Tile)
			}
		}
		found += len(want)
		if !slices.Equal(got, want) {
			t.Error(got, want)
		}
	})
	if found < 100 {
		t.Error(found)
	}
}

// TestCallsOfHands (T2): the calls of a seat are those of its hand.
func TestCallsOfHands(t *testing.T) {
	found := 0
	what := map[int]int{api.SayChow: api.Chow, api.SayPung: api.Pung, api.SayKong: api.Kong}
	eachState(t, 27, 12, func(_ *dice, x table.Table, s api.Deal, _ api.Message) {
		h := table.House(x)
		if s.Phase != api.PhaseClaims || s.How != api.HowDiscard || h.Play.Swap || len(s.Live) == 0 {
			return
		}
		for seat, p := range s.Players {
			if seat == s.Turn || p.Dead || p.Riichi > 0 || spoke(s, seat) {
				continue
			}
			before := h.Play.Chows && seat == (s.Turn+1)%len(s.Players)
			calls, e := dist.Calls(h.Set, h.Forms, handOf(h, p, nil, nil), nil, tile.Kind(h.Set, s.Tile), before)
			var got, want []api.Group
			for _, c := range calls {
				want = append(want, c.Group)
			}
			for _, m := range table.Options(x, seat) {
				if w := what[m.Kind]; w > 0 {
					got = append(got, api.Group{What: w, Kind: min(tile.Kind(h.Set, s.Tile), tile.Kind(h.Set, m.Tiles[0])), Open: true})
				}
			}
			slices.SortFunc(got, func(a, b api.Group) int { return slices.Compare([]int{a.What, a.Kind}, []int{b.What, b.Kind}) })
			found += len(want)
			if e != api.OK || !slices.Equal(slices.Compact(got), want) {
				t.Error(seat, e, got, want)
			}
		}
	})
	if found < 100 {
		t.Error(found)
	}
}

// TestWhoWins (T3): who has a hand at the distance 0 wins, where the house asks for nothing, unless it is barred or dead; nobody else does.
func TestWhoWins(t *testing.T) {
	wins := 0
	eachState(t, 28, 10, func(_ *dice, x table.Table, s api.Deal, _ api.Message) {
		h := table.House(x)
		if h.Least > 0 || s.Phase == api.PhaseOver {
			return
		}
		for seat, p := range s.Players {
			kind, full, may := api.SayWin, handOf(h, p, []int{s.Tile}, nil), !p.Dead && !spoke(s, seat)
			if s.Phase == api.PhaseTurn {
				kind, full = api.SaySelf, handOf(h, p, nil, nil)
				may = may && seat == s.Turn && s.Drawn != none
			} else {
				may = may && seat != s.Turn && !barred(h, p)
			}
			n, e := dist.Distance(h.Set, h.Forms, full, nil)
			may = may && e == api.OK && n == 0
			if may {
				wins++
			}
			if slices.ContainsFunc(table.Options(x, seat), func(m api.Message) bool { return m.Kind == kind }) != may {
				t.Error(seat, may)
			}
		}
	})
	if wins < 50 {
		t.Error(wins)
	}
}

// TestTexts (T4): a house that is read from its text plays alike.
func TestTexts(t *testing.T) {
	eachPlay(t, 29, 4, func(_ *dice, p played) {
		text, _ := house.Text(p.h)
		read, _, e := house.Parse(text)
		if e != api.OK {
			t.Fatal(e)
		}
		again := p.deal
		again.h = read
		y, n, e := table.Run(again.begin(t), p.said)
		if last := p.tables[len(p.tables)-1]; n != -1 || e != api.OK || !sameDeal(table.State(last), table.State(y)) || !house.SameHouse(table.House(y), p.h) {
			t.Error(n, e)
		}
	})
}

// turned turns the seats of a deal by some.
func turned(s api.Deal, by int) api.Deal {
	n := len(s.Players)
	seat := func(i int) int { return (i + by) % n }
	seats := func(l []int) []int {
		var out []int
		for _, i := range l {
			out = append(out, seat(i))
		}
		return slices.Sorted(slices.Values(out))
	}
	players := make([]api.Player, n)
	for i, p := range s.Players {
		for j := range p.Melds {
			p.Melds[j].From = seat(p.Melds[j].From)
		}
		players[seat(i)] = p
	}
	for i := range s.Said {
		s.Said[i].Who = seat(s.Said[i].Who)
	}
	for i, w := range s.Result.Wins {
		if w.Liable >= 0 {
			w.Liable = seat(w.Liable)
		}
		w.Who, w.From = seat(w.Who), seat(w.From)
		s.Result.Wins[i] = w
	}
	s.Players, s.Dealer, s.Turn = players, seat(s.Dealer), seat(s.Turn)
	s.Result.Ready, s.Result.Fouls, s.Result.Sticks = seats(s.Result.Ready), seats(s.Result.Fouls), seats(s.Result.Sticks)
	return s
}

// TestTurned (T6): if all seats are turned with the dealer, so is the deal, with its result.
func TestTurned(t *testing.T) {
	eachPlay(t, 30, 12, func(d *dice, p played) {
		n := p.h.Set.Players
		by := 1 + d.below(n-1)
		other := p.deal
		other.dealer = (p.dealer + by) % n
		y, e := other.begin(t), api.OK
		for i, x := range p.tables {
			if i > 0 {
				m := p.said[i-1]
				if m.Kind != api.SayClock {
					m.Who = (m.Who + by) % n
				}
				y, e = table.Do(y, m)
			}
			if e != api.OK || !sameDeal(turned(table.State(x), by), table.State(y)) {
				t.Fatal(i, e)
			}
		}
	})
}

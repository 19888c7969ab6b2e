package evening_test

import (
	"slices"
	"testing"

	"sparrow/api"
	"sparrow/evening"
	"sparrow/table"
	"sparrow/tile"
)

// lively is a house with any rules of payment and play, in which deals end in all ways.
func (d *dice) lively() api.House {
	h := d.house()
	if h.Least = d.below(2); d.luck() {
		h.Set.Suits, h.Set.Winds, h.Set.Dead = []int{5, 4}, 2, 4
	}
	h.Play = api.Play{
		Chows: true, Heads: 1 + d.below(3), Riichi: true, Rob: d.below(3), Kongs: d.below(3), Nines: d.below(2) * 3, Riichis: d.luck(),
		Time: 5, Foul: 1 + d.below(2), Indicators: 1, Show: d.luck(),
	}
	h.Pay.Feeds = []api.Feed{{Kinds: []int{0, 1, 2, 3}, Many: 1}}
	return h
}

// message is what is said next at a table: mostly one of the options, sometimes a claim that may be a foul.
func (d *dice) message(x table.Table) api.Message {
	s := table.State(x)
	seat := s.Turn
	if s.Phase == api.PhaseClaims {
		seat = d.below(len(s.Players))
	}
	if d.once(60) {
		return api.Message{Kind: []int{api.SaySelf, api.SayWin}[d.below(2)], Who: seat, Tick: s.Tick}
	}
	for len(table.Options(x, seat)) == 0 {
		seat = (seat + 1) % len(s.Players)
	}
	if l := table.Options(x, seat); s.Phase == api.PhaseTurn || !d.once(8) {
		if last := l[len(l)-1]; last.Kind == api.SayWin || last.Kind >= api.SaySelf && d.luck() {
			return last
		}
		return l[d.below(len(l))]
	}
	return api.Message{Kind: api.SayClock, Tick: max(s.Tick, s.Since+table.House(x).Play.Time)}
}

// deal is what is dealt and said in a deal.
type deal struct {
	wall          []int
	cut           int
	dealer, round int
	said          []api.Message
}

// deal plays the next deal of an evening, and returns its result, too.
func (d *dice) deal(t *testing.T, e api.Evening) (deal, api.Result) {
	t.Helper()
	wall := tile.Wall(e.House.Set, uint64(d.below(1<<30)))
	p := deal{wall: wall, cut: d.below(len(wall)), dealer: e.Dealer, round: evening.RoundWind(e)}
	x, f := table.Begin(e.House, p.wall, p.cut, p.dealer, p.round)
	if f != api.OK {
		t.Fatal(f)
	}
	for !table.Over(x) {
		m := d.message(x)
		if next, f := table.Do(x, m); f == api.OK {
			x, p.said = next, append(p.said, m)
		}
	}
	r, _ := table.Outcome(x)
	return p, r
}

// eachDeal plays evenings deal by deal, and calls check with each deal, its result and the evening before it.
func eachDeal(t *testing.T, seed dice, evenings int, check func(d *dice, e api.Evening, p deal, r api.Result)) {
	t.Helper()
	d := &seed
	for range evenings {
		for e, n := begin(t, d.lively()), 0; !evening.Over(e) && n < 30; n++ {
			p, r := d.deal(t, e)
			if check(d, e, p, r); t.Failed() {
				t.Fatal(e, p, r)
			}
			e = after(t, e, r)
		}
	}
}

// TestDeals (T5): the results of deals are results of evenings, and what is paid adds up.
func TestDeals(t *testing.T) {
	what, several, sticks, liable, drawn := map[int]int{}, 0, 0, 0, 0
	eachDeal(t, 31, 60, func(_ *dice, e api.Evening, _ deal, r api.Result) {
		if f := evening.CheckResult(e, r); f != api.OK {
			t.Fatal(f)
		}
		x := after(t, e, r)
		total := 0
		for _, s := range evening.Standings(x) {
			total += s.Total
		}
		if pay := e.House.Pay; sum(x.Points)+x.Sticks*pay.Stick != len(x.Points)*pay.Start || total != 0 || evening.Check(x) != api.OK {
			t.Error(x, total)
		}
		what[r.What]++
		sticks += len(r.Sticks)
		if len(r.Wins) > 1 {
			several++
		}
		for _, w := range r.Wins {
			if w.Liable >= 0 {
				liable++
			}
			if w.Who == w.From {
				drawn++
			}
		}
	})
	for r := api.ResultWin; r <= api.ResultFoul; r++ {
		if what[r] < 10 {
			t.Error(r, what[r])
		}
	}
	if several < 5 || sticks < 50 || liable < 5 || drawn < 50 {
		t.Error(several, sticks, liable, drawn)
	}
}

// TestTurnedDeals (T6): if all seats are turned with the dealer, so are the result of a deal and what is paid for it.
func TestTurnedDeals(t *testing.T) {
	eachDeal(t, 32, 30, func(d *dice, e api.Evening, p deal, r api.Result) {
		x := turner{len(e.Points), 1 + d.below(len(e.Points)-1)}
		other := evening.Copy(e)
		other.Dealer, other.Points = x.seat(e.Dealer), x.list(e.Points)
		said := slices.Clone(p.said)
		for i := range said {
			if said[i].Kind != api.SayClock {
				said[i].Who = x.seat(said[i].Who)
			}
		}
		y, f := table.Begin(e.House, p.wall, p.cut, other.Dealer, p.round)
		y, _, g := table.Run(y, said)
		turned, over := table.Outcome(y)
		if f != api.OK || g != api.OK || !over {
			t.Fatal(f, g)
		}
		if l, m := changes(t, e, r), changes(t, other, turned); !slices.Equal(x.list(l), m) {
			t.Error(l, m)
		}
	})
}

// TestNeededWins (T7): who wins as much as it needs for a place at a table has this place, who wins less has not.
func TestNeededWins(t *testing.T) {
	enough, less := 0, 0
	eachDeal(t, 33, 60, func(_ *dice, e api.Evening, _ deal, r api.Result) {
		if len(r.Wins) != 1 || len(r.Sticks) > 0 || r.Wins[0].Liable >= 0 {
			return
		}
		w, x := r.Wins[0], after(t, e, r)
		for place := range e.Points {
			l, f := evening.Needs(e, w.Who, place)
			if f != api.OK {
				t.Fatal(f)
			}
			need := l[w.From].Points
			has := need >= 0 && w.Points >= need
			if has {
				enough++
			} else {
				less++
			}
			if (placeOf(x, w.Who) <= place) != has {
				t.Error(place, l)
			}
		}
	})
	if enough < 50 || less < 20 {
		t.Error(enough, less)
	}
}

package table_test

import (
	"slices"
	"testing"

	"sparrow/api"
	"sparrow/house"
	"sparrow/table"
	"sparrow/tile"
)

// TestBeginErrors (P6.1, P1): the house's error comes before that of the deal, and that before the round's.
func TestBeginErrors(t *testing.T) {
	steps := []struct {
		spoil func(x *deal)
		want  api.Errno
	}{
		{func(x *deal) { x.h.Set.Players = 2 }, api.ErrRange},
		{func(x *deal) { x.h.Forms = nil }, api.ErrShort},
		{func(x *deal) { x.h.Patterns[1].Name = "plain" }, api.ErrExists},
		{func(x *deal) { x.h.Play.Time = 0 }, api.ErrRange},
		{func(x *deal) { x.wall[3] = 4 }, api.ErrForm},
		{func(x *deal) { x.cut = 16 }, api.ErrRange},
		{func(x *deal) { x.dealer = 3 }, api.ErrRange},
		{func(x *deal) { x.round = 3 }, api.ErrRange},
	}
	for i, first := range steps {
		x := deal{shown(), row(), 14, 1, 0}
		first.spoil(&x)
		for _, later := range steps[i:] {
			later.spoil(&x)
			b, e := table.Begin(x.h, x.wall, x.cut, x.dealer, x.round)
			if e != first.want || !sameDeal(table.State(b), api.Deal{}) {
				t.Error(i, e, first.want)
			}
		}
	}
	for _, c := range []struct {
		cut, dealer, round int
		want               api.Errno
	}{{0, 0, 0, api.OK}, {15, 2, 2, api.OK}, {-1, 0, 0, api.ErrRange}, {0, -1, 0, api.ErrRange}, {0, 0, -1, api.ErrRange}, {0, 0, 3, api.ErrRange}} {
		if _, e := table.Begin(shown(), row(), c.cut, c.dealer, c.round); e != c.want {
			t.Error(c, e)
		}
	}
}

// TestBegin (P6.1): without flowers the hands are those of tile.Deal, and the dealer has drawn the first tile of the live wall.
func TestBegin(t *testing.T) {
	d := dice(2)
	for range 60 {
		x := d.deal(wide())
		hands, live, dead, _ := tile.Deal(x.h.Set, x.wall, x.cut, x.dealer)
		hands[x.dealer] = append(hands[x.dealer], live[0])
		want := api.Deal{Dealer: x.dealer, Round: x.round, Live: live[1:], Dead: dead, Phase: api.PhaseTurn, Turn: x.dealer, Tile: none, Drawn: live[0], Shown: x.h.Play.Indicators}
		for _, h := range hands {
			want.Players = append(want.Players, api.Player{Hand: slices.Sorted(slices.Values(h))})
		}
		if b := x.begin(t); !sameDeal(table.State(b), want) || table.Over(b) || !house.SameHouse(table.House(b), x.h) {
			t.Fatal(table.State(b), want)
		}
	}
}

// flowery is a set of three players in which flowers are the kinds 4 to 8, with some dead tiles: 21 tiles, 12 of them dealt.
func flowery(dead int) api.Set {
	s := shown().Set
	s.Flowers, s.Dead = 5, dead
	return s
}

// TestFlowers (P6.1, P6.7): in turn from the dealer each seat replaces its least flower first, by the last tile of the live wall, as often as it has one; then the dealer draws, and replaces, too.
func TestFlowers(t *testing.T) {
	h := telling(flowery(0), api.Play{})
	// The dealer 1 has the flowers 19 and 17, and replaces them by 20 (a flower again), 15 and 14; then the seat 0 replaces 16 by 13.
	wall := layout{hands: [][]int{{4, 0, 0, 0}, {7, 1, 5, 1}, {0, 1, 1, 2}}, draws: []int{6, 2}, back: []int{8, 3, 3, 3, 3, 2}}.wall(h.Set, 1)
	d := begin(t, h, wall, 1).deal()
	want := [][2][]int{{{0, 1, 2, 14}, {16}}, {{4, 5, 12, 13, 15}, {17, 19, 20, 18}}, {{3, 6, 7, 8}, {}}}
	for i, w := range want {
		if !slices.Equal(d.Players[i].Hand, w[0]) || !slices.Equal(d.Players[i].Flowers, w[1]) {
			t.Error(i, d.Players[i])
		}
	}
	if d.Phase != api.PhaseTurn || d.Turn != 1 || d.Drawn != 15 || d.Kong || !slices.Equal(d.Live, []int{9, 11, 10}) {
		t.Error(d)
	}
}

// TestFlowersExhausted (P6.1): where the live wall is too short for the first flowers, or for the dealer's first draw, the deal is exhausted; a seat with a tile too few, or with a flower, waits for none.
func TestFlowersExhausted(t *testing.T) {
	// One tile is live: seat 2 waits for 2; seat 0 has two flowers, seat 1 another one.
	h := telling(flowery(8), api.Play{})
	wall := layout{hands: [][]int{{4, 5, 0, 0}, {6, 0, 0, 1}, {1, 1, 2, 2}}, draws: []int{1}}.wall(h.Set, 0)
	g := begin(t, h, wall, 0)
	g.over(api.Result{What: api.ResultDraw, Ready: []int{2}})
	d := g.deal()
	if !slices.Equal(d.Players[0].Flowers, []int{16, 17}) || !slices.Equal(d.Players[0].Hand, []int{0, 1, 7}) || !slices.Equal(d.Players[1].Hand, []int{2, 3, 4, 18}) || len(d.Live) > 0 || d.Drawn != none || d.Tile != none {
		t.Error(d)
	}
	// With one flower the tile is enough for the hands, but not for the draw: all wait.
	wall = layout{hands: [][]int{{4, 0, 0, 1}, {0, 0, 3, 3}, {1, 1, 2, 2}}, draws: []int{1}}.wall(h.Set, 0)
	begin(t, h, wall, 0).over(api.Result{What: api.ResultDraw, Ready: []int{0, 1, 2}})
	// Whose turn it would be, is known.
	wall = layout{hands: [][]int{{0, 0, 1, 1}, {4, 5, 3, 3}, {1, 1, 2, 2}}, draws: []int{2}}.wall(h.Set, 1)
	if d := begin(t, h, wall, 1).deal(); d.Turn != 1 || d.Dealer != 1 || d.Phase != api.PhaseOver {
		t.Error(d)
	}
	// The dealer draws a flower, and there is no other tile.
	wall = layout{hands: [][]int{{0, 0, 1, 1}, {0, 0, 2, 3}, {1, 1, 2, 2}}, draws: []int{4}}.wall(h.Set, 0)
	g = begin(t, h, wall, 0)
	g.over(api.Result{What: api.ResultDraw, Ready: []int{0, 2}})
	if d = g.deal(); !slices.Equal(d.Players[0].Flowers, []int{16}) || d.Phase != api.PhaseOver || d.Drawn != none {
		t.Error(d)
	}
}

// TestNoTable (P6.2, P6.3, P6.4, P6.5, P6.6): the zero table is none.
func TestNoTable(t *testing.T) {
	var none table.Table
	x, e := table.Do(none, api.Message{Kind: 99, Tick: -1})
	y, n, f := table.Run(none, make([]api.Message, api.MaxRun+1))
	if e != api.ErrNil || f != api.ErrNil || n != -1 || !sameDeal(table.State(x), api.Deal{}) || !sameDeal(table.State(y), api.Deal{}) {
		t.Error(e, n, f)
	}
	r, ok := table.Outcome(none)
	if ok || table.Over(none) || !same(r, api.Result{}) || table.Options(none, 0) != nil || !same(table.See(none, 0), api.View{}) || !house.SameHouse(table.House(none), api.House{}) {
		t.Error("the zero table is one")
	}
	if _, n, e := table.Run(none, nil); n != -1 || e != api.ErrNil {
		t.Error(n, e)
	}
}

// TestExamples (P6.1 to P6.6): those of the chapter that are not in other tests.
func TestExamples(t *testing.T) {
	b := beginAt(t, shown(), row(), 14, 1, 0)
	d := b.deal()
	if !slices.Equal(d.Players[0].Hand, []int{6, 7, 8, 9}) || !slices.Equal(d.Players[1].Hand, []int{0, 1, 10, 14, 15}) || !slices.Equal(d.Players[2].Hand, []int{2, 3, 4, 5}) || !slices.Equal(d.Live, []int{11}) || !slices.Equal(d.Dead, []int{12, 13}) || d.Turn != 1 || d.Drawn != 10 {
		t.Error(d)
	}
	b.refuses(api.ErrTurn, api.SayDiscard, 0, 10).refuses(api.ErrMissing, api.SayDiscard, 1, 3)
	b.refuses(api.ErrState, api.SayPass, 1, none).refuses(api.ErrState, api.SayClock, 1, none).refuses(api.ErrState, api.SayRiichi, 1, 10)
	if d := b.also().say(api.SaySelf, 1, none).deal(); !d.Players[1].Dead || d.Phase != api.PhaseTurn {
		t.Error(d)
	}
	var discards []api.Message
	for _, x := range []int{0, 1, 10, 14, 15} {
		discards = append(discards, api.Message{Kind: api.SayDiscard, Who: 1, Tile: x})
	}
	if !same(b.options(1), discards) || len(b.options(0)) > 0 {
		t.Error(b.options(1), b.options(0))
	}
	x, e := table.Do(b.x, api.Message{Kind: api.SayDiscard, Who: 1, Tick: 1, Tile: 10})
	g := &game{t, x}
	claims := []api.Message{{Kind: api.SayPass, Tile: none}, {Kind: api.SayPung, Tile: none, Tiles: []int{8, 9}}, {Kind: api.SayWin, Tile: none}}
	if e != api.OK || !same(g.options(0), claims) || !same(g.options(2), []api.Message{{Kind: api.SayPass, Who: 2, Tile: none}}) || len(g.options(1)) > 0 {
		t.Error(e, g.options(0), g.options(2), g.options(1))
	}
	g.refuses(api.ErrTurn, api.SayPass, 1, none).refuses(api.ErrState, api.SayChow, 2, none, 4, 5).refuses(api.ErrForm, api.SayPung, 0, none, 8)
	g.refuses(api.ErrForm, api.SayPung, 0, none, 6, 8).refuses(api.ErrMissing, api.SayPung, 0, none, 8, 10)
	g.also().say(api.SayWin, 0, none).pass(2).over(api.Result{What: api.ResultWin, Wins: []api.WinRow{{Who: 0, From: 1, Value: 1, Points: 30, Liable: -1}}})
	foul := g.also().say(api.SayWin, 2, none)
	if d := foul.deal(); !d.Players[2].Dead || d.Phase != api.PhaseClaims {
		t.Error(d)
	}
	if d := foul.pass(0).deal(); !d.Players[0].Missed || d.Turn != 2 || d.Drawn != 11 {
		t.Error(d)
	}
	d = g.also().say(api.SayPung, 0, none, 8, 9).pass(2).deal()
	meld := api.Meld{Group: api.Group{What: api.Pung, Kind: 2, Open: true}, Tiles: []int{8, 9, 10}, From: 1}
	if p := d.Players[0]; !slices.Equal(p.Hand, []int{6, 7}) || !same(p.Melds, []api.Meld{meld}) || d.Turn != 0 || d.Drawn != none || d.Phase != api.PhaseTurn {
		t.Error(d)
	}
}

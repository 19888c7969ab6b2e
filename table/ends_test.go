package table_test

import (
	"slices"
	"testing"

	"sparrow/api"
	"sparrow/table"
)

// toEnd lets each seat discard what it draws, or its last tile after a call, until the deal is over.
func (g *game) toEnd() *game {
	g.t.Helper()
	for !table.Over(g.x) {
		d := g.deal()
		t := d.Drawn
		if t == none {
			t = d.Players[d.Turn].Hand[0]
		}
		g.drop(t)
	}
	return g
}

// TestExhausted (P6.2, P6.6): when no tile is left to be drawn, who waits is ready, unless it is dead; the seats with riichi have laid sticks.
func TestExhausted(t *testing.T) {
	h := telling(wide(), api.Play{Riichi: true})
	hands := [][]int{{4, 5, 12, 12}, {0, 3, 9, 22}, {4, 5, 15, 15}, {6, 7, 18, 18}}
	g := lay(t, h, layout{hands: hands, draws: []int{20, 20, 20, 20, 21}})
	g.drop(at(20, 0)).goOn(2).say(api.SayRiichi, 3, at(20, 3)).quiet().say(api.SayRiichi, 0, at(21, 0)).quiet()
	g.ask(g.deal().Drawn).say(api.SayWin, 2, none).quiet().toEnd()
	if d := g.deal(); !d.Players[2].Dead || len(d.Live) > 0 || d.Turn != 1 || d.Phase != api.PhaseOver || d.Tile != none || d.Drawn != none || d.How != 0 || d.Since != 0 {
		t.Error(d)
	}
	g.over(api.Result{What: api.ResultDraw, Ready: []int{0, 3}, Sticks: []int{0, 3}})
	for player := range 4 {
		if len(table.Options(g.x, player)) > 0 {
			t.Error(player)
		}
	}
	for kind := api.SayDiscard; kind <= api.SayClock; kind++ {
		g.refuses(api.ErrState, kind, 1, none)
	}
}

// TestExhaustedByFlowers (P6.2): a flower that is drawn last of all, in turn or after a kong, ends the deal.
func TestExhaustedByFlowers(t *testing.T) {
	h := telling(flowery(7), api.Play{})
	// Two tiles are live; seat 1 draws a flower, and nothing instead.
	g := lay(t, h, layout{hands: [][]int{{0, 0, 1, 3}, {0, 0, 2, 3}, {1, 1, 2, 2}}, draws: []int{3, 8}}).drop(at(3, 2))
	g.over(api.Result{What: api.ResultDraw, Ready: []int{2}})
	if d := g.deal(); !slices.Equal(d.Players[1].Flowers, []int{20}) || len(d.Players[1].Hand) != 4 || len(d.Live) > 0 || d.Turn != 0 {
		t.Error(d)
	}
	// Seat 0 replaces the fourth tile of its kong by a flower: it waits for its other tile.
	g = lay(t, h, layout{hands: [][]int{{0, 0, 0, 0}, {1, 1, 2, 3}, {1, 1, 2, 3}}, draws: []int{2, 8}}).say(api.SayClosed, 0, 0)
	g.over(api.Result{What: api.ResultDraw, Ready: []int{0}})
	if d := g.deal(); !slices.Equal(d.Players[0].Flowers, []int{20}) || !slices.Equal(d.Players[0].Hand, []int{10}) || d.Calls != 1 || d.Kong {
		t.Error(d)
	}
	// With one tile more, that is what replaces the flower, from the end.
	h = telling(flowery(6), api.Play{})
	g = lay(t, h, layout{hands: [][]int{{0, 0, 0, 0}, {1, 1, 2, 3}, {1, 1, 2, 3}}, draws: []int{2, 3}, back: []int{8}}).say(api.SayClosed, 0, 0)
	if d := g.deal(); d.Phase != api.PhaseTurn || d.Drawn != at(3, 2) || !d.Kong || !slices.Equal(d.Players[0].Flowers, []int{20}) {
		t.Error(d)
	}
}

// TestTurnAfterFlowers (P6.2): a flower that is drawn is laid, and replaced by the last tile of the live wall; that is no kong.
func TestTurnAfterFlowers(t *testing.T) {
	s := wide()
	s.Flowers = 3
	l := layout{hands: junk(), draws: []int{24, 20}, back: []int{23, 25, 21}}
	g := lay(t, telling(s, api.Play{}), l)
	d := g.deal()
	if !slices.Equal(d.Players[0].Flowers, []int{93, 92, 94}) || d.Drawn != at(21, 0) || d.Kong || d.Live[0] != at(20, 0) || len(d.Live) != 73-4 {
		t.Error(d)
	}
}

// TestKongs (P6.2): so many kongs of two seats or more end the deal, those of one seat do not; the indicator is shown before.
func TestKongs(t *testing.T) {
	hands := [][]int{{0, 0, 0, 0, 4, 4, 4}, {9, 9, 9, 12, 15, 18, 3}, {1, 1, 1, 1, 5, 8, 11}, {3, 6, 10, 12, 15, 18, 21}}
	l := layout{hands: hands, draws: []int{9, 20, 20}, back: []int{4, 21, 21}}
	begun := func(kongs int) *game {
		return lay(t, telling(broad(), api.Play{Kongs: kongs, Show: true, Indicators: 1}), l)
	}
	over := func(g *game, shown int) {
		t.Helper()
		g.over(api.Result{What: api.ResultAbort})
		if d := g.deal(); d.Shown != shown || d.Kong || d.Drawn != none {
			t.Error(d)
		}
	}
	for _, kongs := range []int{0, 1, 2} {
		g := begun(kongs).say(api.SayClosed, 0, at(0, 0)).say(api.SayClosed, 0, at(4, 0))
		if table.Over(g.x) || g.deal().Calls != 2 {
			t.Error(kongs, g.deal())
		}
	}
	// The open kong of seat 1 is the second one.
	open := func(kongs int) *game {
		return begun(kongs).say(api.SayClosed, 0, at(0, 0)).ask(at(9, 3)).say(api.SayKong, 1, none, of(9, 3)...).quiet()
	}
	over(open(2), 3)
	over(open(1), 3)
	if g := open(2); g.deal().Turn != 1 || g.deal().Calls != 2 || len(g.player(1).Hand) != 4 {
		t.Error(g.deal())
	}
	g := open(3)
	if d := g.deal(); d.Phase != api.PhaseTurn || d.Turn != 1 || !d.Kong || d.Shown != 3 {
		t.Error(d)
	}
	// The dead wall has six tiles: no more than three indicators are shown.
	g.drop(g.deal().Drawn).say(api.SayClosed, 2, at(1, 2))
	over(g, 3)
	if g := open(0); g.drop(g.deal().Drawn).say(api.SayClosed, 2, at(1, 2)).deal().Phase != api.PhaseTurn {
		t.Error(g.deal())
	}
	// Without Show nothing is shown.
	g = lay(t, telling(broad(), api.Play{Indicators: 1}), l).say(api.SayClosed, 0, at(0, 0))
	if d := g.deal(); d.Shown != 1 {
		t.Error(d)
	}
}

// TestSameWinds (P6.2): the same wind of all seats in a first row without calls ends the deal, unless the last one is won.
func TestSameWinds(t *testing.T) {
	hands := [][]int{{0, 3, 6, 18}, {0, 3, 9, 18}, {0, 6, 9, 18}, {3, 6, 9, 18}}
	discard := func(g *game, kinds ...int) *game {
		t.Helper()
		for _, k := range kinds {
			d := g.deal()
			hand := d.Players[d.Turn].Hand
			g.drop(hand[slices.IndexFunc(hand, func(x int) bool { return x/4 == k })])
		}
		return g
	}
	l := layout{hands: hands, draws: []int{20, 20, 20, 20}}
	winds := telling(wide(), api.Play{Winds: true})
	discard(lay(t, winds, l), 18, 18, 18, 18).over(api.Result{What: api.ResultAbort})
	discard(lay(t, winds, l), 20, 20, 20, 20).over(api.Result{What: api.ResultAbort})
	for _, kinds := range [][]int{{18, 18, 18}, {18, 18, 18, 20}, {20, 18, 18, 18}, {18, 20, 18, 18}} {
		if g := discard(lay(t, winds, l), kinds...); table.Over(g.x) {
			t.Error(kinds)
		}
	}
	if g := discard(lay(t, telling(wide(), api.Play{}), l), 18, 18, 18, 18); table.Over(g.x) {
		t.Error("the house does not know it")
	}
	// Dragons are no winds.
	hands = [][]int{{0, 3, 6, 22}, {0, 3, 9, 22}, {0, 6, 9, 22}, {3, 6, 9, 22}}
	if g := discard(lay(t, winds, layout{hands: hands}), 22, 22, 22, 22); table.Over(g.x) {
		t.Error("dragons are winds")
	}
	// A kong is a call.
	hands = [][]int{{12, 12, 12, 12}, {0, 3, 9, 18}, {0, 6, 9, 18}, {3, 6, 9, 18}}
	g := lay(t, winds, layout{hands: hands, draws: []int{18, 20}}).say(api.SayClosed, 0, at(12, 0))
	if discard(g, 18, 18, 18, 18); table.Over(g.x) {
		t.Error("after a call it does not count")
	}
	// Three players do it in three turns; in the second row it does not count.
	s := wide()
	s.Players = 3
	l = layout{hands: [][]int{{0, 3, 6, 18}, {0, 3, 9, 18}, {0, 6, 9, 18}}, draws: []int{20, 20, 20, 18}}
	h := telling(s, api.Play{Winds: true})
	discard(lay(t, h, l), 18, 18, 18).over(api.Result{What: api.ResultAbort})
	if g := discard(lay(t, h, l), 20, 18, 18, 18); table.Over(g.x) {
		t.Error("the second row does not count")
	}
	// A win of the last one comes before.
	l = layout{hands: [][]int{{4, 5, 6, 18}, {0, 3, 9, 18}, {0, 6, 9, 18}}, draws: []int{18, 20, 20}}
	g = discard(lay(t, h, l), 18, 18).ask(at(18, 2)).say(api.SayWin, 0, none).quiet()
	g.wins(api.WinRow{Who: 0, From: 2, Liable: -1})
	// Riichi with such a wind counts.
	hands = [][]int{{0, 3, 6, 18}, {0, 3, 9, 18}, {0, 6, 9, 18}, {4, 5, 6, 18}}
	h = telling(wide(), api.Play{Winds: true, Riichi: true})
	g = discard(lay(t, h, layout{hands: hands, draws: []int{20, 20, 20, 20}}), 18, 18, 18)
	g.say(api.SayRiichi, 3, at(18, 3)).quiet().over(api.Result{What: api.ResultAbort, Sticks: []int{3}})
}

// TestAllRiichi (P6.2): riichi of all seats ends the deal, unless the last discard is won.
func TestAllRiichi(t *testing.T) {
	hands := [][]int{{0, 1, 2, 9}, {3, 4, 5, 12}, {6, 7, 8, 15}, {13, 14, 18, 18}}
	begun := func(all bool) *game {
		g := lay(t, telling(wide(), api.Play{Riichi: true, Riichis: all}), layout{hands: hands, draws: []int{20, 20, 20, 15}})
		for seat := range 3 {
			g.say(api.SayRiichi, seat, at(20, seat)).quiet()
		}
		return g
	}
	g := begun(true)
	if table.Over(g.x) {
		t.Fatal("three are not all")
	}
	g.also().say(api.SayRiichi, 3, at(15, 1)).quiet().over(api.Result{What: api.ResultAbort, Sticks: []int{0, 1, 2, 3}})
	g.also().say(api.SayRiichi, 3, at(15, 1)).say(api.SayWin, 2, none).quiet().over(api.Result{What: api.ResultWin, Sticks: []int{0, 1, 2}, Wins: []api.WinRow{{Who: 2, From: 3, Value: flag(1, 2, 3), Points: flag(1, 2, 3), Liable: -1}}})
	if g := g.also().drop(at(15, 1)); table.Over(g.x) {
		t.Error("a discard is no riichi")
	}
	if g := begun(false).say(api.SayRiichi, 3, at(15, 1)).quiet(); table.Over(g.x) || g.player(3).Riichi != 2 {
		t.Error("the house does not know it")
	}
}

// TestSticks (P6.2): wins and aborted deals have the sticks of all seats with riichi, fouls have none.
func TestSticks(t *testing.T) {
	hands := [][]int{{0, 1, 2, 9}, {3, 4, 5, 12}, {6, 7, 8, 15}, {13, 14, 18, 18}}
	for foul := api.FoulDead; foul <= api.FoulEnd; foul++ {
		h := telling(wide(), api.Play{Riichi: true, Nines: 1, Foul: foul})
		g := lay(t, h, layout{hands: hands, draws: []int{20, 20, 9}}).say(api.SayRiichi, 0, at(20, 0)).quiet().say(api.SayRiichi, 1, at(20, 1)).quiet()
		g.also().say(api.SayNines, 2, none).over(api.Result{What: api.ResultAbort, Sticks: []int{0, 1}})
		g.also().ask(at(9, 1)).say(api.SayWin, 0, none).quiet().over(api.Result{What: api.ResultWin, Sticks: []int{0, 1}, Wins: []api.WinRow{{Who: 0, From: 2, Value: flag(1, 2, 3), Points: flag(1, 2, 3), Liable: -1}}})
		g.say(api.SaySelf, 2, none)
		if foul == api.FoulEnd {
			g.over(api.Result{What: api.ResultFoul, Fouls: []int{2}})
		}
	}
}

package table_test

import (
	"testing"

	"sparrow/api"
	"sparrow/table"
)

// value checks the Total of the one win of a deal.
func (g *game) value(want int) {
	g.t.Helper()
	r, ok := table.Outcome(g.x)
	if !ok || len(r.Wins) != 1 || r.Wins[0].Value != want {
		g.t.Error(r, "not", want)
	}
}

// TestFlags (P6.2): a win has the flags for riichi, for what was won at once, for kongs, for the last tile and for the first turn.
func TestFlags(t *testing.T) {
	h := telling(wide(), api.Play{Riichi: true})
	hands := [][]int{{0, 1, 2, 9}, {3, 6, 12, 15}, {3, 6, 12, 15}, {3, 6, 12, 15}}
	begun := func(draws ...int) *game { return lay(t, h, layout{hands: hands, draws: draws}) }
	riichi := func(draws ...int) *game { return begun(draws...).say(api.SayRiichi, 0, at(20, 0)).quiet() }
	// A discard is won without riichi; at once after riichi in the first turn; later.
	begun(20, 9).drop(at(20, 0)).ask(at(9, 1)).say(api.SayWin, 0, none).quiet().value(0)
	riichi(20, 9).ask(at(9, 1)).say(api.SayWin, 0, none).quiet().value(flag(api.FlagRiichi, api.FlagDouble, api.FlagOnce))
	riichi(20, 21, 21, 21, 22, 9).goOn(4).ask(at(9, 1)).say(api.SayWin, 0, none).quiet().value(flag(api.FlagRiichi, api.FlagDouble))
	// The tile is drawn, at once or later.
	riichi(20, 21, 21, 21, 9).goOn(3).say(api.SaySelf, 0, none).value(flag(api.FlagRiichi, api.FlagDouble, api.FlagOnce))
	riichi(20, 21, 21, 21, 22, 19, 19, 19, 9).goOn(7).say(api.SaySelf, 0, none).value(flag(api.FlagRiichi, api.FlagDouble))
	// In its second turn riichi counts once.
	begun(20, 21, 21, 21, 20, 9).goOn(4).say(api.SayRiichi, 0, at(20, 1)).quiet().ask(at(9, 1)).say(api.SayWin, 0, none).quiet().value(flag(api.FlagRiichi, api.FlagOnce))
	// The first turn is over for all as soon as something is called.
	hands = [][]int{{3, 6, 12, 20}, {20, 20, 12, 15}, {0, 1, 2, 9}, {3, 6, 12, 15}}
	g := begun(9, 9)
	g.also().ask(at(9, 1)).say(api.SayWin, 2, none).quiet().value(flag(api.FlagFirst))
	g.ask(at(20, 0)).say(api.SayPung, 1, none, at(20, 1), at(20, 2)).quiet().drop(at(12, 1)).say(api.SaySelf, 2, none).value(0)
}

// TestKongFlags (P6.2): a kong's tile is robbed; what replaces it is drawn after a kong, and what is drawn later, or claimed, is not.
func TestKongFlags(t *testing.T) {
	hands := [][]int{{3, 3, 3, 3}, {0, 6, 12, 15}, {4, 5, 9, 9}, {0, 6, 12, 15}}
	l := layout{hands: hands, draws: []int{20, 20}, back: []int{20}}
	g := lay(t, telling(wide(), api.Play{}), l).say(api.SayClosed, 0, at(3, 0))
	g.also().say(api.SaySelf, 0, none).value(flag(api.FlagKong))
	g = lay(t, telling(wide(), api.Play{Rob: 2}), l).say(api.SayClosed, 0, at(3, 0))
	g.also().say(api.SayWin, 2, none).quiet().over(api.Result{What: api.ResultWin, Wins: []api.WinRow{{Who: 2, From: 0, Value: flag(api.FlagRob, api.FlagFirst), Points: flag(api.FlagRob, api.FlagFirst), Liable: -1}}})
	g.quiet().say(api.SaySelf, 0, none).value(flag(api.FlagKong))
	// With another tile it does not win at once, and later no kong counts.
	l.back = []int{22}
	l.draws = []int{20, 21, 21, 21, 20}
	g = lay(t, telling(wide(), api.Play{}), l).say(api.SayClosed, 0, at(3, 0)).drop(at(22, 0)).goOn(3).say(api.SaySelf, 0, none)
	g.value(0)
}

// TestRobbed (P6.2): who robs an added kong wins from the seat that added the tile, also where that one has just drawn after another kong; the pung stays.
func TestRobbed(t *testing.T) {
	h := telling(broad(), api.Play{Rob: 1})
	hands := [][]int{{3, 6, 12, 15, 18, 5, 21}, {5, 5, 9, 9, 9, 9, 16}, {3, 4, 0, 1, 2, 22, 22}, {3, 6, 12, 15, 18, 7, 21}}
	l := layout{hands: hands, draws: []int{17, 17, 17, 17, 20}, back: []int{5}}
	g := lay(t, h, l).ask(at(5, 0)).say(api.SayPung, 1, none, at(5, 1), at(5, 2)).quiet().drop(at(16, 0)).goOn(3)
	if d := g.deal(); d.Turn != 1 || d.Drawn != at(20, 0) {
		t.Fatal(d)
	}
	g.say(api.SayClosed, 1, at(9, 3)).say(api.SayAdd, 1, at(5, 3))
	d := g.deal()
	if d.Phase != api.PhaseClaims || d.How != api.HowAdded || d.Tile != at(5, 3) || d.Drawn != at(5, 3) || !d.Kong || d.Calls != 2 || d.Turn != 1 || d.Players[1].Melds[0].Group.What != api.Pung {
		t.Error(d)
	}
	g.also().say(api.SayWin, 2, none).quiet().over(api.Result{What: api.ResultWin, Wins: []api.WinRow{{Who: 2, From: 1, Value: flag(api.FlagRob), Points: flag(api.FlagRob), Liable: -1}}})
	won := g.also().say(api.SayWin, 2, none).quiet().deal()
	if won.Players[1].Melds[0].Group.What != api.Pung || len(won.Players[1].Hand) != 2 || won.Kong {
		t.Error(won)
	}
	g.quiet()
	if d = g.deal(); d.Players[1].Melds[0].Group.What != api.Kong || d.Calls != 3 || d.Turn != 1 || !d.Kong {
		t.Error(d)
	}
}

// TestRobClosed (P6.2): closed kongs are claimed with Rob 2 only; the tiles stay in the hand until the kong is carried out.
func TestRobClosed(t *testing.T) {
	h := telling(wide(), api.Play{Rob: 2})
	l := layout{hands: [][]int{{3, 3, 3, 3}, {0, 6, 12, 15}, {4, 5, 9, 9}, {0, 6, 12, 15}}, draws: []int{20}, back: []int{21}}
	g := lay(t, h, l)
	x, e := table.Do(g.x, saying(api.SayClosed, 0, 3, at(3, 1)))
	want := g.deal()
	want.Phase, want.Tile, want.How, want.Since, want.Tick = api.PhaseClaims, at(3, 1), api.HowClosed, 3, 3
	if e != api.OK || !sameDeal(table.State(x), want) || want.Drawn != at(20, 0) {
		t.Error(e, table.State(x), want)
	}
	x, _, e = table.Run(x, []api.Message{saying(api.SayPass, 1, 3, none), saying(api.SayPass, 2, 3, none), saying(api.SayPass, 3, 3, none)})
	want.Players[0].Hand, want.Players[0].Melds = []int{at(20, 0), at(21, 0)}, []api.Meld{{Group: api.Group{What: api.Kong, Kind: 3}, Tiles: of(3, 4)}}
	want.Players[2].Missed = true
	want.Phase, want.Tile, want.How, want.Since, want.Drawn, want.Kong, want.Calls, want.Live = api.PhaseTurn, none, 0, 0, at(21, 0), true, 1, want.Live[:len(want.Live)-1]
	if e != api.OK || !sameDeal(table.State(x), want) {
		t.Error(e, table.State(x), want)
	}
}

// TestLast (P6.2): the last tile is won by a draw, or as a discard.
func TestLast(t *testing.T) {
	s := shown().Set
	s.Reds = nil
	h := telling(s, api.Play{})
	// The last tile is drawn by the second seat, that has 1 1 1 0; the first one has 0 2 3 3.
	l := layout{hands: [][]int{{0, 2, 3, 3}, {0, 1, 1, 1}, {0, 2, 2, 2}}, draws: []int{1, 3}}
	g := lay(t, h, l)
	g.also().say(api.SaySelf, 0, none).value(flag(api.FlagFirst))
	g.drop(at(1, 3))
	if d := g.deal(); len(d.Live) != 0 || d.Turn != 1 {
		t.Fatal(d)
	}
	g.ask(at(1, 0)).say(api.SayWin, 0, none).quiet().value(flag(api.FlagLast))
	l.draws[1] = 0
	lay(t, h, l).drop(at(1, 3)).say(api.SaySelf, 1, none).value(flag(api.FlagLast, api.FlagFirst))
}

// TestBonus (P6.2): flowers, red tiles, and tiles behind indicators count, in the hand, in melds, and the tile that wins.
func TestBonus(t *testing.T) {
	s := wide()
	s.Flowers, s.Reds = 4, []int{0, 9, 10}
	hands := [][]int{{3, 6, 12, 15}, {0, 1, 2, 9}, {4, 7, 13, 16}, {4, 7, 13, 16}}
	// The red tiles are the copies 0: seat 1 has 0 and 9 red; the next 9 is not red. The dead wall is 8, 1, 2, 0, 8, 1: behind 8 comes 0.
	l := layout{hands: hands, draws: []int{9}, dead: []int{8, 1, 2, 0, 8, 1}}
	for _, c := range []struct {
		p    api.Play
		want int
	}{{api.Play{}, 2}, {api.Play{Indicators: 1}, 3}, {api.Play{Indicators: 2}, 3}, {api.Play{Indicators: 3}, 4}, {api.Play{Indicators: 3, Under: true}, 4}} {
		lay(t, telling(s, c.p), l).ask(at(9, 1)).say(api.SayWin, 1, none).quiet().value(flag(api.FlagFirst) + c.want)
	}
	// With riichi, and Under, those under the indicators count, too.
	l.draws = []int{22, 22, 22, 22, 9}
	for _, c := range []struct {
		p    api.Play
		want int
	}{{api.Play{Riichi: true, Indicators: 3, Under: true}, 7}, {api.Play{Riichi: true, Indicators: 1, Under: true}, 4}, {api.Play{Riichi: true, Indicators: 3}, 4}} {
		lay(t, telling(s, c.p), l).goOn(1).say(api.SayRiichi, 1, at(22, 1)).quiet().goOn(2).ask(at(9, 1)).say(api.SayWin, 1, none).quiet().value(flag(api.FlagRiichi, api.FlagDouble, api.FlagOnce) + c.want)
	}
	// A red tile counts that is claimed, or drawn (once), or in a meld; flowers count each.
	hands = [][]int{{9, 3, 6, 12}, {0, 1, 2, 9}, {4, 7, 13, 16}, {4, 7, 13, 16}}
	l = layout{hands: hands, draws: []int{22}, dead: []int{8}}
	lay(t, telling(s, api.Play{Indicators: 1}), l).ask(at(9, 0)).say(api.SayWin, 1, none).quiet().value(flag(api.FlagFirst) + 3)
	l.draws = []int{10, 12}
	hands[0] = []int{0, 1, 2, 10}
	hands[1] = []int{23, 24, 3, 6}
	l.back = []int{25, 21, 15}
	lay(t, telling(s, api.Play{Indicators: 1}), l).say(api.SaySelf, 0, none).value(flag(api.FlagFirst) + 3)
	hands = [][]int{{9, 3, 6, 12}, {9, 9, 22, 23}, {4, 7, 13, 16}, {4, 7, 13, 16}}
	l = layout{hands: hands, draws: []int{15, 24, 12, 22}, dead: []int{17}, back: []int{21, 8}}
	g := lay(t, telling(s, api.Play{Indicators: 1}), l)
	g.ask(at(9, 0)).say(api.SayPung, 1, none, at(9, 1), at(9, 2)).quiet().drop(at(21, 0))
	if d := g.deal(); len(d.Players[1].Flowers) != 1 || len(d.Players[2].Flowers) != 1 || d.Drawn != at(8, 0) || d.Kong {
		t.Fatal(d)
	}
	g.goOn(2).ask(at(22, 1)).say(api.SayWin, 1, none).quiet().value(1 + 1 + 3)
}

// TestWinds (P6.2): the wind of a win is how many seats the winner is behind the dealer, and the round is the deal's.
func TestWinds(t *testing.T) {
	h := telling(wide(), api.Play{})
	h.Patterns = []api.Pattern{{Name: "seat", Closed: 8, Cond: []api.Node{{Op: api.OpWind, What: 31, N: 1}}}, {Name: "round", Closed: 16, Cond: []api.Node{{Op: api.OpWind, What: 31, N: 2}}}}
	// The hands have a pair of a wind, and wait for 3.
	for dealer := range 4 {
		for round := range 4 {
			for behind := 1; behind < 4; behind++ {
				for wind := range 4 {
					hands := [][]int{{0, 6, 9, 12}, {0, 6, 9, 12}, {0, 6, 9, 12}, {0, 6, 9, 12}}
					winner := (dealer + behind) % 4
					hands[winner] = []int{4, 5, 18 + wind, 18 + wind}
					want := 0
					if wind == behind {
						want += 8
					}
					if wind == round {
						want += 16
					}
					g := beginAt(t, h, layout{hands: hands, draws: []int{3}}.wall(h.Set, dealer), 0, dealer, round)
					g.ask(at(3, 0)).say(api.SayWin, winner, none).quiet().value(want)
				}
			}
		}
	}
	hands := [][]int{{4, 5, 18, 18}, {0, 6, 9, 12}, {0, 6, 9, 12}, {0, 6, 9, 12}}
	lay(t, h, layout{hands: hands, draws: []int{3}}).say(api.SaySelf, 0, none).value(24)
}

// TestLeast (P6.2, P6.12): a hand that is not worth what the house asks for does not win; its claim is a foul.
func TestLeast(t *testing.T) {
	h := telling(wide(), api.Play{})
	h.Least = 8
	l := layout{hands: [][]int{{0, 6, 9, 12}, {4, 5, 12, 12}, {0, 6, 9, 12}, {22, 22, 5, 7}}, draws: []int{3}}
	lay(t, h, l).ask(at(3, 0)).say(api.SayWin, 1, none).quiet().value(flag(api.FlagFirst))
	h.Patterns = h.Patterns[:6]
	g := lay(t, h, l).ask(at(3, 0))
	if l := g.options(1); len(l) != 1 || l[0].Kind != api.SayPass {
		t.Error(l)
	}
	if g.say(api.SayWin, 1, none); !g.player(1).Dead {
		t.Error(g.deal())
	}
}

// TestLiable (P6.2): who fed the meld that a feed names is liable, also where it has become a kong.
func TestLiable(t *testing.T) {
	h := telling(broad(), api.Play{})
	h.Pay.Feeds = []api.Feed{{Kinds: []int{22}, Many: 1}}
	hands := [][]int{{4, 3, 6, 10, 12, 15, 18}, {22, 22, 22, 0, 1, 2, 9}, {5, 3, 6, 11, 12, 15, 18}, {20, 22, 6, 13, 12, 15, 18}}
	l := layout{hands: hands, draws: []int{19, 19, 19, 19, 20, 21, 9}}
	fed := func() *game {
		return lay(t, h, l).goOn(3).ask(at(22, 3)).say(api.SayPung, 1, none, of(22, 2)...).quiet()
	}
	fed().drop(at(22, 2)).goOn(2).ask(at(9, 1)).say(api.SayWin, 1, none).quiet().wins(api.WinRow{Who: 1, From: 0, Liable: 3})
	h.Pay.Feeds[0].Many = 2
	fed().drop(at(22, 2)).goOn(2).ask(at(9, 1)).say(api.SayWin, 1, none).quiet().wins(api.WinRow{Who: 1, From: 0, Liable: -1})
	h.Pay.Feeds[0].Many = 1
	l.draws, l.back = []int{19, 19, 19, 19, 20, 21, 21, 3}, []int{3}
	fed().drop(at(9, 0)).goOn(3).say(api.SayAdd, 1, at(22, 2)).say(api.SaySelf, 1, none).wins(api.WinRow{Who: 1, From: 1, Value: flag(api.FlagKong), Liable: 3})
}

// TestFuriten (P6.2, P6.12): a seat that has discarded a tile of the kinds for which it waits, taken or not, or has missed one, wins no claimed tile, but what it draws.
func TestFuriten(t *testing.T) {
	hands := [][]int{{0, 8, 9, 21}, {4, 5, 12, 12}, {3, 3, 15, 18}, {0, 8, 9, 21}}
	// Seat 1 draws 3, and discards it; it waits for 3 and 6.
	l := layout{hands: hands, draws: []int{20, 3, 20, 6, 6, 6}}
	for _, taken := range []bool{false, true} {
		for _, furiten := range []bool{false, true} {
			g := lay(t, telling(wide(), api.Play{Furiten: furiten}), l).goOn(1).ask(at(3, 2))
			if taken {
				g.say(api.SayPung, 2, none, of(3, 2)...).quiet().drop(at(15, 0))
			} else {
				g.quiet().goOn(1)
			}
			g.ask(g.deal().Drawn)
			won := g.also().say(api.SayWin, 1, none).quiet()
			if taken {
				// Seat 3 has drawn and discarded 20.
				g.quiet().ask(g.deal().Drawn)
				won = g.also().say(api.SayWin, 1, none).quiet()
			}
			if won.player(1).Dead != furiten || table.Over(won.x) == furiten {
				t.Error(taken, furiten, won.deal())
			}
			if kinds := g.kinds(1); len(kinds) == 2 == furiten {
				t.Error(taken, furiten, kinds)
			}
		}
	}
	// What is drawn, is won.
	g := lay(t, telling(wide(), api.Play{Furiten: true}), layout{hands: hands, draws: []int{20, 3, 20, 20, 20, 6}}).goOn(5)
	g.say(api.SaySelf, 1, none).value(0)
	// A tile that was missed bars until the next draw.
	hands = [][]int{{0, 8, 9, 21}, {0, 8, 15, 18}, {4, 5, 12, 12}, {0, 8, 9, 21}}
	for _, furiten := range []bool{false, true} {
		l = layout{hands: hands, draws: []int{3, 6, 20, 6, 19}}
		g = lay(t, telling(wide(), api.Play{Furiten: furiten}), l).drop(at(3, 0)).ask(at(6, 0))
		if g.also().say(api.SayWin, 2, none).player(2).Dead != furiten {
			t.Error(furiten, g.deal())
		}
		g.quiet().goOn(1).ask(at(6, 1)).say(api.SayWin, 2, none).quiet().value(0)
	}
}

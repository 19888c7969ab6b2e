package table_test

import (
	"slices"
	"testing"

	"sparrow/api"
	"sparrow/table"
)

// claimed is a deal in which seat 0 has discarded a tile of a kind, and the others have these hands.
func claimed(t *testing.T, p api.Play, kind int, hands ...[]int) *game {
	t.Helper()
	l := layout{hands: append([][]int{{0, 4, 9, 22}}, hands...), draws: []int{kind}}
	g := lay(t, telling(wide(), p), l)
	return g.ask(g.deal().Drawn)
}

// TestChowErrors (P6.2): only the next seat may call a chow, with two tiles of its own that make a run with the discard.
func TestChowErrors(t *testing.T) {
	g := claimed(t, api.Play{Chows: true}, 3, []int{1, 2, 4, 5}, []int{1, 2, 4, 5}, []int{12, 15, 18, 21})
	for _, c := range [][]int{{at(4, 1), at(5, 0)}, {at(5, 0), at(4, 1)}, {at(2, 0), at(4, 1)}, {at(1, 0), at(2, 0)}} {
		g.refuses(api.OK, api.SayChow, 1, none, c...).refuses(api.ErrState, api.SayChow, 2, none, c...).refuses(api.ErrState, api.SayChow, 3, none, c...)
	}
	g.refuses(api.ErrForm, api.SayChow, 1, none).refuses(api.ErrForm, api.SayChow, 1, none, at(4, 1)).refuses(api.ErrForm, api.SayChow, 1, none, at(4, 1), at(5, 0), at(2, 0))
	g.refuses(api.ErrMissing, api.SayChow, 1, none, at(4, 1), at(5, 1)).refuses(api.ErrMissing, api.SayChow, 1, none, at(4, 1), at(4, 1)).refuses(api.ErrMissing, api.SayChow, 1, none, none, 99).refuses(api.ErrMissing, api.SayChow, 1, none, at(4, 1), at(3, 0))
	g.refuses(api.ErrForm, api.SayChow, 1, none, at(1, 0), at(4, 1)).refuses(api.ErrForm, api.SayChow, 1, none, at(1, 0), at(5, 0))
	// The state comes before the tiles.
	g.refuses(api.ErrState, api.SayChow, 2, none).refuses(api.ErrState, api.SayChow, 3, none, 99, 99)
	claimed(t, api.Play{}, 3, []int{1, 2, 4, 5}).refuses(api.ErrState, api.SayChow, 1, none, at(4, 1), at(5, 0)).refuses(api.ErrState, api.SayChow, 1, none)
	// Ranks of different suits and winds do not run; nor are three equal tiles a chow.
	claimed(t, api.Play{Chows: true}, 8, []int{7, 9, 10, 6}).refuses(api.ErrForm, api.SayChow, 1, none, at(9, 1), at(10, 0)).refuses(api.ErrForm, api.SayChow, 1, none, at(7, 0), at(9, 1)).refuses(api.OK, api.SayChow, 1, none, at(6, 0), at(7, 0))
	claimed(t, api.Play{Chows: true}, 18, []int{19, 20, 17, 18}).refuses(api.ErrForm, api.SayChow, 1, none, at(19, 0), at(20, 0)).refuses(api.ErrForm, api.SayChow, 1, none, at(17, 0), at(19, 0))
	claimed(t, api.Play{Chows: true}, 12, []int{12, 12, 13, 14}).refuses(api.ErrForm, api.SayChow, 1, none, at(12, 0), at(12, 1)).refuses(api.ErrForm, api.SayChow, 1, none, at(12, 0), at(13, 0))
}

// TestPungErrors (P6.2): a pung is called with two tiles of the discard's kind, a kong with three, by any seat, whether there are chows or not.
func TestPungErrors(t *testing.T) {
	for _, chows := range []bool{false, true} {
		g := claimed(t, api.Play{Chows: chows}, 3, []int{3, 3, 3, 4}, []int{4, 4, 5, 5}, []int{12, 15, 18, 21})
		own, other := of(3, 3), at(4, 1)
		g.refuses(api.OK, api.SayPung, 1, none, own[0], own[2]).refuses(api.OK, api.SayPung, 1, none, own[2], own[1]).refuses(api.OK, api.SayKong, 1, none, own[1], own[2], own[0])
		g.refuses(api.ErrForm, api.SayPung, 1, none, own...).refuses(api.ErrForm, api.SayPung, 1, none, own[0]).refuses(api.ErrForm, api.SayPung, 1, none)
		g.refuses(api.ErrForm, api.SayKong, 1, none, own[:2]...).refuses(api.ErrForm, api.SayKong, 1, none, append(own, other)...).refuses(api.ErrForm, api.SayKong, 1, none)
		g.refuses(api.ErrMissing, api.SayPung, 1, none, own[0], own[0]).refuses(api.ErrMissing, api.SayPung, 1, none, own[0], at(3, 3)).refuses(api.ErrMissing, api.SayKong, 1, none, own[0], own[1], at(3, 3)).refuses(api.ErrMissing, api.SayKong, 1, none, own[0], own[1], own[1])
		g.refuses(api.ErrForm, api.SayPung, 1, none, own[0], other).refuses(api.ErrForm, api.SayKong, 1, none, own[0], own[1], other)
		// How many tiles there are comes before whose they are, and that before of which kinds.
		g.refuses(api.ErrForm, api.SayPung, 1, none, at(9, 0)).refuses(api.ErrForm, api.SayKong, 1, none, own[0], own[0]).refuses(api.ErrForm, api.SayPung, 1, none, 99, 98, 97).refuses(api.ErrMissing, api.SayPung, 1, none, other, at(9, 0))
		g.refuses(api.ErrForm, api.SayPung, 2, none, at(4, 2), at(4, 3)).refuses(api.ErrMissing, api.SayPung, 2, none, own[0], own[1])
	}
}

// TestNoCalls (P6.2): nothing is called of a kong, nor with riichi, nor of the last discard of all; that comes before what is wrong with the tiles.
func TestNoCalls(t *testing.T) {
	h := telling(wide(), api.Play{Chows: true, Riichi: true, Rob: 2})
	calls := func(g *game, who int, want api.Errno) {
		t.Helper()
		for _, c := range []api.Message{saying(api.SayChow, who, 0, none, at(1, 0), at(2, 0)), saying(api.SayPung, who, 0, none, at(0, 1), at(0, 2)), saying(api.SayKong, who, 0, none, at(0, 1), at(0, 2), at(0, 3))} {
			g.refusesMessage(want, c)
			c.Tiles = nil
			g.refusesMessage(api.ErrState, c)
		}
	}
	hands := [][]int{{12, 12, 12, 12}, {13, 14, 0, 3}, {3, 6, 9, 15}, {3, 6, 9, 15}}
	calls(lay(t, h, layout{hands: hands}).say(api.SayClosed, 0, at(12, 0)), 1, api.ErrState)
	// Seat 1 has riichi, and waits for 9; seat 0 discards 0.
	hands = [][]int{{4, 6, 15, 18}, {22, 0, 1, 2}, {3, 6, 9, 15}, {3, 6, 9, 15}}
	g := lay(t, h, layout{hands: hands, draws: []int{20, 20, 20, 20, 0}}).goOn(1).say(api.SayRiichi, 1, at(20, 1)).quiet().goOn(2)
	g.ask(g.deal().Drawn)
	g.refuses(api.ErrState, api.SayChow, 1, none, at(1, 0), at(2, 0)).refuses(api.ErrState, api.SayChow, 1, none).refuses(api.ErrState, api.SayPung, 1, none).refuses(api.ErrState, api.SayKong, 1, none)
	// The last discard of all can be won, but not called.
	s := shown().Set
	s.Dead = 3
	g = lay(t, telling(s, api.Play{Chows: true}), layout{hands: [][]int{{0, 1, 3, 3}, {0, 0, 0, 2}, {1, 1, 2, 2}}, draws: []int{1}}).ask(at(0, 0))
	if d := g.deal(); len(d.Live) != 0 {
		t.Fatal(d)
	}
	g.refuses(api.ErrState, api.SayPung, 1, none, 1, 2).refuses(api.ErrState, api.SayKong, 1, none, 1, 2, 3).refuses(api.ErrState, api.SayPung, 1, none)
	if kinds := g.kinds(1); !slices.Equal(kinds, []int{api.SayPass}) {
		t.Error(kinds)
	}
}

// TestCalls (P6.2): the called tile and the others leave river and hand, and are an open meld at the end; it is the turn of who called, and it draws nothing.
func TestCalls(t *testing.T) {
	for _, c := range []struct {
		kind, tile int
		hand       []int
		tiles      []int
		want       api.Group
	}{
		{api.SayChow, 5, []int{3, 4, 12, 15}, []int{at(4, 1), at(3, 0)}, api.Group{What: api.Chow, Kind: 3, Open: true}},
		{api.SayChow, 4, []int{3, 5, 12, 15}, []int{at(3, 0), at(5, 0)}, api.Group{What: api.Chow, Kind: 3, Open: true}},
		{api.SayChow, 3, []int{4, 5, 12, 15}, []int{at(5, 0), at(4, 1)}, api.Group{What: api.Chow, Kind: 3, Open: true}},
		{api.SayPung, 3, []int{3, 3, 12, 15}, []int{at(3, 1), at(3, 0)}, api.Group{What: api.Pung, Kind: 3, Open: true}},
	} {
		g := claimed(t, api.Play{Chows: true}, c.tile, c.hand, []int{12, 15, 18, 21}, []int{12, 15, 18, 21})
		want := g.deal()
		from, who := &want.Players[0], &want.Players[1]
		from.River[0].Taken = true
		tiles := slices.Sorted(slices.Values(append(slices.Clone(c.tiles), want.Tile)))
		who.Hand = slices.DeleteFunc(who.Hand, func(x int) bool { return slices.Contains(tiles, x) })
		who.Melds = []api.Meld{{Group: c.want, Tiles: tiles, From: 0}}
		want.Phase, want.Turn, want.Tile, want.How, want.Since, want.Calls = api.PhaseTurn, 1, none, 0, 0, 1
		g.say(c.kind, 1, none, c.tiles...)
		if d := g.deal(); d.Phase != api.PhaseClaims || len(d.Said) != 1 || len(d.Players[1].Melds) != 0 {
			t.Error(d)
		}
		if d := g.pass(3, 2).deal(); !sameDeal(d, want) {
			t.Error(d, want)
		}
	}
	// A kong draws the last tile of the live wall; it bans nothing.
	g := claimed(t, api.Play{Swap: true}, 3, []int{12, 15, 18, 21}, []int{12, 15, 18, 21}, []int{3, 3, 3, 15})
	want := g.deal()
	last := want.Live[len(want.Live)-1]
	want.Players[0].River[0].Taken = true
	want.Players[3].Hand = slices.Sorted(slices.Values([]int{at(15, 2), last}))
	want.Players[3].Melds = []api.Meld{{Group: api.Group{What: api.Kong, Kind: 3, Open: true}, Tiles: of(3, 4), From: 0}}
	want.Phase, want.Turn, want.Tile, want.Drawn, want.How, want.Kong, want.Calls, want.Live = api.PhaseTurn, 3, none, last, 0, true, 1, want.Live[:len(want.Live)-1]
	if d := g.say(api.SayKong, 3, none, of(3, 3)...).quiet().deal(); !sameDeal(d, want) {
		t.Error(d, want)
	}
}

// TestBanned (P6.2): after a call nobody may discard what it called, nor what would have completed the run from its other end.
func TestBanned(t *testing.T) {
	swap := api.Play{Chows: true, Swap: true}
	for _, c := range []struct {
		tile int
		hand []int // its first two tiles are called with
		want []int
	}{
		{3, []int{4, 5, 12, 15}, []int{3, 6}}, {5, []int{3, 4, 12, 15}, []int{2, 5}}, {4, []int{3, 5, 12, 15}, []int{4}},
		{6, []int{7, 8, 12, 15}, []int{6}}, {5, []int{6, 7, 12, 15}, []int{5, 8}}, {2, []int{0, 1, 12, 15}, []int{2}}, {3, []int{1, 2, 12, 15}, []int{0, 3}},
		{11, []int{9, 10, 4, 6}, []int{11}}, {15, []int{16, 17, 4, 6}, []int{15}}, {9, []int{10, 11, 4, 6}, []int{9, 12}},
	} {
		g := claimed(t, swap, c.tile, c.hand, []int{12, 15, 18, 21}, []int{12, 15, 18, 21})
		l := table.Options(g.x, 1)
		chow := slices.IndexFunc(l, func(m api.Message) bool { return m.Kind == api.SayChow })
		if chow < 0 {
			t.Fatal(c, l)
		}
		g.say(api.SayChow, 1, none, l[chow].Tiles...).quiet()
		if d := g.deal(); !slices.Equal(d.Banned, c.want) || d.Turn != 1 {
			t.Error(c, d)
		}
	}
	g := claimed(t, swap, 3, []int{3, 3, 3, 15}, []int{12, 15, 18, 21}, []int{12, 15, 18, 21}).say(api.SayPung, 1, none, of(3, 2)...).quiet()
	if d := g.deal(); !slices.Equal(d.Banned, []int{3}) {
		t.Error(d)
	}
	g.refuses(api.ErrClash, api.SayDiscard, 1, at(3, 2)).refuses(api.ErrMissing, api.SayDiscard, 1, at(3, 3)).refuses(api.OK, api.SayDiscard, 1, at(15, 0))
	if d := g.ask(at(15, 0)).deal(); len(d.Banned) > 0 {
		t.Error(d)
	}
	if d := g.quiet().deal(); len(d.Banned) > 0 {
		t.Error(d)
	}
	// Without Swap nothing is banned.
	g = claimed(t, api.Play{}, 3, []int{3, 3, 3, 15}, []int{12, 15, 18, 21}, []int{12, 15, 18, 21}).say(api.SayPung, 1, none, of(3, 2)...).quiet()
	if d := g.deal(); len(d.Banned) > 0 {
		t.Error(d)
	}
	g.refuses(api.OK, api.SayDiscard, 1, at(3, 2))
}

// TestOnlyBanned (P6.2): a chow that would leave nothing but banned kinds is refused, after everything else that is wrong with it.
func TestOnlyBanned(t *testing.T) {
	swap := api.Play{Chows: true, Swap: true}
	g := claimed(t, swap, 3, []int{4, 5, 3, 6}, []int{12, 15, 18, 21}, []int{12, 15, 18, 21})
	g.refuses(api.ErrClash, api.SayChow, 1, none, at(4, 1), at(5, 0)).refuses(api.ErrForm, api.SayChow, 1, none, at(4, 1), at(6, 0)).refuses(api.ErrMissing, api.SayChow, 1, none, at(4, 1), at(5, 1))
	if slices.Contains(g.kinds(1), api.SayChow) {
		t.Error(g.options(1))
	}
	claimed(t, swap, 3, []int{4, 5, 3, 7}).refuses(api.OK, api.SayChow, 1, none, at(4, 1), at(5, 0))
	claimed(t, swap, 3, []int{4, 5, 2, 3}).refuses(api.OK, api.SayChow, 1, none, at(4, 1), at(5, 0))
	claimed(t, swap, 3, []int{4, 5, 6, 6}).refuses(api.ErrClash, api.SayChow, 1, none, at(4, 1), at(5, 0))
	claimed(t, swap, 3, []int{4, 6, 3, 3}).refuses(api.ErrForm, api.SayChow, 1, none, at(4, 1), at(6, 0))
	claimed(t, swap, 3, []int{3, 3, 3, 6}).refuses(api.OK, api.SayKong, 1, none, of(3, 3)...).refuses(api.OK, api.SayPung, 1, none, of(3, 2)...)
	claimed(t, api.Play{Chows: true}, 3, []int{4, 5, 3, 6}).refuses(api.OK, api.SayChow, 1, none, at(4, 1), at(5, 0))
}

// TestPriority (P6.2, P6.9): a win comes before a kong or a pung, and these before a chow, in whatever order they are said.
func TestPriority(t *testing.T) {
	play := api.Play{Chows: true}
	hands := [][]int{{4, 5, 12, 15}, {3, 3, 15, 18}, {2, 4, 22, 22}}
	chow, pung, win := saying(api.SayChow, 1, 0, none, at(4, 1), at(5, 0)), saying(api.SayPung, 2, 0, none, at(3, 0), at(3, 1)), saying(api.SayWin, 3, 0, none)
	for _, c := range []struct {
		l    []api.Message
		turn int
	}{{[]api.Message{chow, pung, saying(api.SayPass, 3, 0, none)}, 2}, {[]api.Message{saying(api.SayPass, 3, 0, none), pung, chow}, 2}, {[]api.Message{chow, saying(api.SayPass, 2, 0, none), saying(api.SayPass, 3, 0, none)}, 1}} {
		x, _, e := table.Run(claimed(t, play, 3, hands...).x, c.l)
		if d := table.State(x); e != api.OK || d.Turn != c.turn || d.Calls != 1 || len(d.Players[c.turn].Melds) != 1 {
			t.Error(c, e, d)
		}
	}
	for _, l := range [][]api.Message{{chow, pung, win}, {win, pung, chow}, {pung, win, chow}} {
		g := claimed(t, play, 3, hands...)
		g.x, _, _ = table.Run(g.x, l)
		g.wins(api.WinRow{Who: 3, Value: flag(api.FlagFirst), Liable: -1})
	}
	// A kong comes before a chow, too.
	g := claimed(t, play, 3, []int{4, 5, 12, 15}, []int{3, 3, 3, 18}, []int{12, 15, 18, 21})
	g.say(api.SayChow, 1, none, at(4, 1), at(5, 0)).say(api.SayKong, 2, none, of(3, 3)...).pass(3)
	if d := g.deal(); d.Turn != 2 || len(d.Players[1].Melds) != 0 || !d.Kong {
		t.Error(d)
	}
}

// TestDecided (P6.2): claims are decided when all have spoken that are not dead, or by a clock; without any claim the next seat draws, dead or not.
func TestDecided(t *testing.T) {
	hands := [][]int{{12, 15, 3, 21}, {12, 15, 3, 21}, {12, 15, 3, 21}}
	g := claimed(t, api.Play{}, 5, hands...)
	x, e := table.Do(g.x, saying(api.SayClock, 0, 5, none))
	if d := table.State(x); e != api.OK || d.Turn != 1 || d.Phase != api.PhaseTurn || d.Tick != 5 {
		t.Error(e, d)
	}
	g.pass(3).say(api.SayWin, 1, none)
	if d := g.deal(); d.Phase != api.PhaseClaims || !d.Players[1].Dead || !same(d.Said, []api.Message{saying(api.SayPass, 3, 0, none)}) {
		t.Error(d)
	}
	// The foul of the last seat that is waited for decides, too.
	g.say(api.SayWin, 2, none)
	if d := g.deal(); d.Phase != api.PhaseTurn || d.Turn != 1 || !d.Players[2].Dead {
		t.Error(d)
	}
	// Seat 1, 2 and 3 are dead: nobody is waited for, and nobody draws later than at once.
	g.ask(g.deal().Drawn).say(api.SayWin, 3, none).pass(0)
	g.ask(g.deal().Drawn).pass(0)
	g.ask(g.deal().Drawn).pass(0)
	if d := g.deal(); d.Turn != 0 || !d.Players[3].Dead {
		t.Fatal(d)
	}
	g.ask(g.deal().Drawn)
	if d := g.deal(); d.Phase != api.PhaseTurn || d.Turn != 1 || d.How != 0 || len(d.Players[0].River) != 2 {
		t.Error(d)
	}
	// A foul can end the deal.
	h := telling(wide(), api.Play{Foul: api.FoulEnd})
	g = lay(t, h, layout{hands: junk()})
	g.ask(at(0, 0)).say(api.SayWin, 2, none).over(api.Result{What: api.ResultFoul, Fouls: []int{2}})
	if g.player(2).Dead {
		t.Error(g.deal())
	}
}

// TestMissed (P6.2): who waits for a tile that nobody wins has missed it, whatever it says; a call, or a draw without riichi, ends that, and the draw after a kong does not.
func TestMissed(t *testing.T) {
	play := api.Play{Chows: true, Riichi: true}
	// Seats 1 and 2 wait for 3 (and 6), seat 3 does not; seat 1 says nothing.
	hands := [][]int{{4, 5, 12, 12}, {4, 5, 18, 18}, {3, 3, 15, 21}}
	g := claimed(t, play, 3, hands...).pass(2, 3)
	x, e := table.Do(g.x, saying(api.SayClock, 0, 5, none))
	after := &game{t, x}
	missed := func(g *game) []bool {
		var l []bool
		for _, p := range g.deal().Players {
			l = append(l, p.Missed)
		}
		return l
	}
	// Seat 1 has drawn already.
	if m := missed(after); e != api.OK || !slices.Equal(m, []bool{false, false, true, false}) {
		t.Error(m, e)
	}
	if m := missed(after.goOn(1)); !slices.Equal(m, []bool{false, false, false, false}) {
		t.Error(m)
	}
	// Seat 3 calls a pung: seats 1 and 2 have missed a tile. Seat 1 calls a chow: it has not.
	if m := missed(g.also()); !slices.Equal(m, []bool{false, false, false, false}) {
		t.Error(m)
	}
	g = claimed(t, play, 3, hands...)
	if m := missed(g.also().say(api.SayPung, 3, none, at(3, 0), at(3, 1)).pass(2, 1)); !slices.Equal(m, []bool{false, true, true, false}) {
		t.Error(m)
	}
	if m := missed(g.also().say(api.SayChow, 1, none, at(4, 1), at(5, 0)).pass(2, 3)); !slices.Equal(m, []bool{false, false, true, false}) {
		t.Error(m)
	}
	// Who waits for another tile has not missed this one.
	if m := missed(claimed(t, play, 3, []int{0, 8, 12, 18}, []int{12, 13, 18, 18}, []int{4, 5, 15, 15}).quiet()); !slices.Equal(m, []bool{false, false, false, true}) {
		t.Error(m)
	}
	// Who is dead misses nothing.
	hands = [][]int{{4, 5, 12, 12}, {0, 6, 15, 21}, {0, 6, 15, 18}, {4, 5, 18, 18}}
	g = lay(t, telling(wide(), play), layout{hands: hands, draws: []int{22, 3}}).ask(at(22, 0)).say(api.SayWin, 3, none).quiet().drop(at(3, 0))
	if m := missed(g); !slices.Equal(m, []bool{true, false, false, false}) {
		t.Error(m)
	}
	// The tile of a kong that can be robbed may be missed as well.
	hands = [][]int{{0, 6, 15, 21}, {3, 3, 3, 3}, {0, 6, 15, 18}, {4, 5, 18, 18}}
	g = lay(t, telling(wide(), api.Play{Rob: 2}), layout{hands: hands, draws: []int{22, 22}}).goOn(1).say(api.SayClosed, 1, at(3, 0)).quiet()
	if m := missed(g); !slices.Equal(m, []bool{false, false, false, true}) || !g.deal().Kong {
		t.Error(m)
	}
}

// TestMissedStays (P6.2): with riichi what was missed stays missed, by a draw as well as by a kong.
func TestMissedStays(t *testing.T) {
	h := telling(broad(), api.Play{Riichi: true, Furiten: true})
	hands := [][]int{{9, 3, 6, 12, 15, 18, 21}, {9, 3, 6, 12, 15, 18, 21}, {3, 6, 12, 15, 18, 21, 22}, {0, 0, 0, 5, 6, 7, 9}}
	l := layout{hands: hands, draws: []int{20, 20, 20, 20, 17, 17, 17, 8, 16, 16, 16, 0}, back: []int{14}}
	g := lay(t, h, l).goOn(3).say(api.SayRiichi, 3, at(20, 3)).quiet()
	g.drop(at(9, 0))
	if p := g.player(3); !p.Missed || p.Riichi != 2 {
		t.Error(p)
	}
	if foul := g.also().ask(at(9, 1)).say(api.SayWin, 3, none); !foul.player(3).Dead {
		t.Error(foul.deal())
	}
	g.goOn(2)
	if d := g.deal(); d.Turn != 3 || !d.Players[3].Missed || d.Drawn != at(8, 0) {
		t.Error(d)
	}
	g.goOn(4).say(api.SayClosed, 3, at(0, 0))
	if d := g.deal(); d.Turn != 3 || !d.Players[3].Missed || d.Drawn != at(14, 0) || !d.Kong {
		t.Error(d)
	}
}

// TestHeads (P6.2, P6.12): the first winner in turn wins, or all of them do, in turn; with Heads 2 three are too many.
func TestHeads(t *testing.T) {
	// Behind the dealer all wait for 3.
	hands := [][]int{{0, 8, 9, 22}, {4, 5, 12, 12}, {1, 2, 15, 15}, {2, 4, 18, 18}}
	for _, dealer := range []int{0, 2} {
		seat := func(n int) int { return (dealer + n) % 4 }
		turned := make([][]int, 4)
		for n, h := range hands {
			turned[seat(n)] = h
		}
		for _, c := range []struct {
			heads        int
			claims, wins []int
		}{
			{1, []int{3, 2, 1}, []int{1}}, {1, []int{3, 2}, []int{2}}, {1, []int{1, 3}, []int{1}}, {1, []int{3}, []int{3}},
			{2, []int{3, 2}, []int{2, 3}}, {2, []int{3, 1}, []int{1, 3}}, {2, []int{2}, []int{2}}, {2, []int{2, 3, 1}, nil},
			{3, []int{2, 3, 1}, []int{1, 2, 3}}, {3, []int{2, 1}, []int{1, 2}},
		} {
			h := telling(wide(), api.Play{Heads: c.heads})
			g := begin(t, h, layout{hands: turned, draws: []int{3}}.wall(h.Set, dealer), dealer)
			g.ask(g.deal().Drawn)
			for _, n := range c.claims {
				g.say(api.SayWin, seat(n), none)
			}
			g.quiet()
			want := api.Result{What: api.ResultAbort}
			for _, n := range c.wins {
				want.What = api.ResultWin
				want.Wins = append(want.Wins, api.WinRow{Who: seat(n), From: dealer, Value: flag(api.FlagFirst), Points: flag(api.FlagFirst), Liable: -1})
			}
			g.over(want)
			if d := g.deal(); d.Tile != none || d.Drawn != none || d.How != 0 || d.Since != 0 || len(d.Said) > 0 || d.Phase != api.PhaseOver || d.Turn != dealer || d.Players[dealer].River[0].Taken {
				t.Error(d)
			}
		}
	}
}

package table_test

import (
	"slices"
	"testing"

	"sparrow/api"
	"sparrow/table"
)

// junk are hands of four tiles that wait for nothing, as long as they are of different kinds that do not stand close together.
func junk() [][]int { return [][]int{{0, 3, 6, 9}, {0, 3, 6, 12}, {0, 3, 9, 15}, {3, 6, 9, 12}} }

// TestDiscard (P6.2): a discard moves the tile to the river, and lets the others claim it.
func TestDiscard(t *testing.T) {
	g := lay(t, telling(wide(), api.Play{}), layout{hands: junk(), draws: []int{5, 7, 20}})
	d := g.deal()
	if d.Phase != api.PhaseTurn || d.Turn != 0 || d.Drawn != at(5, 0) || d.Tile != none || d.Tick != 0 {
		t.Error(d)
	}
	g.refuses(api.ErrMissing, api.SayDiscard, 0, at(0, 1)).refuses(api.ErrMissing, api.SayDiscard, 0, none).refuses(api.ErrMissing, api.SayDiscard, 0, 92)
	x, e := table.Do(g.x, saying(api.SayDiscard, 0, 4, at(3, 0)))
	want := g.deal()
	want.Players[0].Hand, want.Players[0].River, want.Players[0].Turns = []int{at(0, 0), at(5, 0), at(6, 0), at(9, 0)}, []api.Drop{{Tile: at(3, 0)}}, 1
	want.Phase, want.Tile, want.Drawn, want.How, want.Since, want.Tick = api.PhaseClaims, at(3, 0), none, api.HowDiscard, 4, 4
	if e != api.OK || !sameDeal(table.State(x), want) {
		t.Error(e, table.State(x), want)
	}
	after := &game{t, x}
	after.quiet()
	want.Live, want.Phase, want.Turn, want.Tile, want.Drawn, want.How, want.Since = want.Live[1:], api.PhaseTurn, 1, none, at(7, 0), 0, 0
	want.Players[1].Hand = []int{at(0, 1), at(3, 1), at(6, 1), at(7, 0), at(12, 0)}
	if !sameDeal(after.deal(), want) {
		t.Error(after.deal(), want)
	}
}

// TestRiichiErrors (P6.2): who may not declare riichi at all is told so before it is told that it would wait for nothing.
func TestRiichiErrors(t *testing.T) {
	hands := append([][]int{{0, 1, 2, 9}}, junk()[1:]...)
	l := layout{hands: hands, draws: []int{5}}
	play := api.Play{Riichi: true, Last: 69}
	g := lay(t, telling(wide(), play), l)
	if len(g.deal().Live) != 69 {
		t.Fatal(g.deal())
	}
	g.refuses(api.OK, api.SayRiichi, 0, at(5, 0)).refuses(api.OK, api.SayRiichi, 0, at(9, 0)).refuses(api.ErrForm, api.SayRiichi, 0, at(0, 0)).refuses(api.ErrMissing, api.SayRiichi, 0, at(8, 0)).refuses(api.ErrMissing, api.SayRiichi, 0, none)
	dead := g.also().say(api.SaySelf, 0, none)
	dead.refuses(api.ErrState, api.SayRiichi, 0, at(5, 0)).refuses(api.ErrState, api.SayRiichi, 0, at(0, 0)).refuses(api.ErrMissing, api.SayRiichi, 0, at(8, 0))
	for _, p := range []api.Play{{Riichi: true, Last: 70}, {Last: 69}} {
		g = lay(t, telling(wide(), p), l)
		g.refuses(api.ErrState, api.SayRiichi, 0, at(5, 0)).refuses(api.ErrState, api.SayRiichi, 0, at(0, 0)).refuses(api.ErrMissing, api.SayRiichi, 0, at(8, 0))
	}
	// Who has riichi, does not declare it again, though it would wait.
	play.Last = 0
	l.draws = []int{5, 20, 20, 20, 5}
	g = lay(t, telling(wide(), play), l).say(api.SayRiichi, 0, at(5, 0)).quiet().goOn(3)
	g.refuses(api.ErrState, api.SayRiichi, 0, at(5, 1)).refuses(api.ErrState, api.SayRiichi, 0, at(0, 0)).refuses(api.ErrMissing, api.SayRiichi, 0, at(8, 0))
}

// TestRiichiMelds (P6.2): an open meld keeps from riichi, a closed kong does not.
func TestRiichiMelds(t *testing.T) {
	h := telling(broad(), api.Play{Riichi: true})
	hands := [][]int{{22, 3, 6, 9, 12, 15, 18}, {22, 22, 3, 4, 5, 9, 12}, {0, 0, 0, 0, 6, 7, 8}, {0 + 1, 3, 6, 9, 12, 15, 18}}
	g := lay(t, h, layout{hands: hands, draws: []int{19, 20, 9, 20}, back: []int{12}})
	g.ask(at(22, 0)).say(api.SayPung, 1, none, at(22, 1), at(22, 2)).quiet()
	g.refuses(api.ErrState, api.SayRiichi, 1, at(9, 1)).drop(at(9, 1))
	// Seat 2 draws 20, and declares its kong; it draws the last tile of all, a 12.
	g.say(api.SayClosed, 2, at(0, 0))
	if d := g.deal(); d.Turn != 2 || d.Drawn != at(12, 3) || len(d.Players[2].Melds) != 1 {
		t.Fatal(d)
	}
	g.refuses(api.ErrForm, api.SayRiichi, 2, at(6, 1)).say(api.SayRiichi, 2, at(12, 3)).quiet()
	if p := g.player(2); p.Riichi != 1 || !p.Once {
		t.Error(p)
	}
}

// TestRiichi (P6.2, P6.13): riichi counts as soon as nobody wins its discard: twice if it is the first one, without calls before it; and what is won at once ends with its next discard.
func TestRiichi(t *testing.T) {
	h := telling(wide(), api.Play{Riichi: true})
	hands := [][]int{{0, 1, 2, 9}, {4, 5, 18, 18}, {9, 9, 12, 15}, {4, 5, 6, 19}}
	g := lay(t, h, layout{hands: hands, draws: []int{3, 20, 20, 20, 21, 20, 22, 19}})
	if d := g.deal(); d.Players[0].Riichi != 0 {
		t.Error(d)
	}
	g.say(api.SayRiichi, 0, at(3, 0))
	if p := g.player(0); p.Riichi != 0 || p.Once || !same(p.River, []api.Drop{{Tile: at(3, 0), Riichi: true}}) || p.Turns != 1 {
		t.Error(p)
	}
	// Seat 1 wins it: riichi does not count, and there is no stick.
	won := g.also().say(api.SayWin, 1, none).quiet()
	won.over(api.Result{What: api.ResultWin, Wins: []api.WinRow{{Who: 1, Value: flag(api.FlagFirst), Points: flag(api.FlagFirst), Liable: -1}}})
	if won.player(0).Riichi != 0 {
		t.Error(won.deal())
	}
	g.quiet()
	if p := g.player(0); p.Riichi != 2 || !p.Once {
		t.Error(p)
	}
	g.goOn(3)
	if d := g.deal(); d.Turn != 0 || d.Drawn != at(21, 0) || !d.Players[0].Once {
		t.Fatal(d)
	}
	// It discards just what it draws.
	g.refuses(api.ErrState, api.SayDiscard, 0, at(9, 0)).refuses(api.ErrMissing, api.SayDiscard, 0, at(9, 1)).ask(at(21, 0))
	if p := g.player(0); p.Once || p.Riichi != 2 || p.Turns != 2 || p.River[1].Riichi {
		t.Error(p)
	}
	// In its second turn seat 3 declares riichi, too: that counts once.
	g.quiet().goOn(2).say(api.SayRiichi, 3, at(19, 1)).quiet()
	if d := g.deal(); d.Players[3].Riichi != 1 || !d.Players[3].Once || d.Players[0].Riichi != 2 {
		t.Error(d)
	}
}

// TestOnce (P6.2): a call, also of the riichi's discard, ends what is won at once; and after a call no riichi counts twice.
func TestOnce(t *testing.T) {
	h := telling(wide(), api.Play{Riichi: true})
	hands := [][]int{{0, 1, 2, 9}, {3, 4, 5, 18}, {20, 20, 12, 15}, {22, 22, 6, 19}}
	l := layout{hands: hands, draws: []int{20, 12, 21, 21, 21}}
	g := lay(t, h, l).say(api.SayRiichi, 0, at(20, 2)).say(api.SayPung, 2, none, at(20, 0), at(20, 1)).quiet()
	if p := g.player(0); p.Riichi != 2 || p.Once || !p.River[0].Taken || !p.River[0].Riichi {
		t.Error(p)
	}
	g.drop(at(12, 0)).goOn(2).say(api.SayRiichi, 1, at(21, 1)).quiet()
	if p := g.player(1); p.Riichi != 1 || !p.Once {
		t.Error(p)
	}
	// A kong ends it, too.
	hands[2] = []int{20, 20, 20, 15}
	l = layout{hands: hands, draws: []int{21, 12, 20}}
	g = lay(t, h, l).say(api.SayRiichi, 0, at(21, 0)).quiet().goOn(1)
	if !g.player(0).Once {
		t.Error(g.deal())
	}
	g.say(api.SayClosed, 2, at(20, 3))
	if p := g.player(0); p.Once || p.Riichi != 2 {
		t.Error(p)
	}
}

// TestClosedErrors (P6.2): too few tiles come before everything that keeps from kongs.
func TestClosedErrors(t *testing.T) {
	h := telling(broad(), api.Play{})
	hands := [][]int{{9, 3, 6, 12, 15, 18, 21}, {0, 0, 0, 0, 9, 9, 15}, {1, 4, 7, 10, 13, 18, 21}, {1, 4, 7, 10, 13, 18, 21}}
	g := lay(t, h, layout{hands: hands, draws: []int{9, 15}})
	g.refuses(api.ErrMissing, api.SayClosed, 0, at(0, 0)).refuses(api.ErrMissing, api.SayClosed, 0, none).refuses(api.ErrForm, api.SayClosed, 0, at(3, 0)).ask(at(9, 0))
	called := g.also().say(api.SayPung, 1, none, at(9, 1), at(9, 2)).quiet()
	called.refuses(api.ErrState, api.SayClosed, 1, at(0, 0)).refuses(api.ErrForm, api.SayClosed, 1, at(15, 1)).refuses(api.ErrMissing, api.SayClosed, 1, at(9, 1))
	g.quiet().refuses(api.OK, api.SayClosed, 1, at(0, 0)).refuses(api.OK, api.SayClosed, 1, at(0, 3)).refuses(api.ErrForm, api.SayClosed, 1, at(15, 1)).refuses(api.ErrMissing, api.SayClosed, 1, at(9, 0))
	g.say(api.SaySelf, 1, none).refuses(api.ErrState, api.SayClosed, 1, at(0, 0)).refuses(api.ErrForm, api.SayClosed, 1, at(15, 1)).refuses(api.ErrMissing, api.SayClosed, 1, at(8, 0))
	// Without a tile that could replace it there is no kong.
	s := shown().Set
	for _, c := range []struct {
		dead int
		want api.Errno
	}{{2, api.OK}, {3, api.ErrState}} {
		s.Dead = c.dead
		lay(t, telling(s, api.Play{}), layout{hands: [][]int{{0, 0, 0, 0}}}).refuses(c.want, api.SayClosed, 0, 0)
	}
}

// TestClosedWithRiichi (P6.2, P6.13): with riichi a closed kong has to be of the kind that was drawn, and may not change the waits.
func TestClosedWithRiichi(t *testing.T) {
	h := telling(broad(), api.Play{Riichi: true})
	for _, c := range []struct {
		hand        []int
		draw, again int
		want        api.Errno
	}{
		{[]int{0, 0, 0, 5, 6, 7, 9}, 0, 0, api.OK},        // waits for 9, before and after
		{[]int{0, 0, 0, 1, 1, 9, 9}, 0, 0, api.OK},        // for 1 and 9
		{[]int{0, 0, 0, 1, 2, 9, 9}, 0, 0, api.ErrState},  // for 0, 3 and 9, afterwards for 3
		{[]int{0, 0, 0, 0, 1, 2, 9}, 3, 0, api.ErrState},  // for 9, before and after, but 3 was drawn
		{[]int{0, 0, 0, 5, 6, 7, 9}, 12, 0, api.ErrForm},  // three tiles
		{[]int{9, 9, 9, 5, 6, 7, 1}, 9, 9, api.OK},        // for 1
		{[]int{9, 9, 9, 10, 6, 7, 8}, 9, 9, api.ErrState}, // for 10 and 11, afterwards for 10
	} {
		hands := [][]int{c.hand, {20, 20, 20, 21, 21, 21, 18}, {18, 18, 18, 19, 19, 19, 22}, {22, 22, 22, 2, 5, 8, 12}}
		g := lay(t, h, layout{hands: hands, draws: []int{15, 15, 15, 15, c.draw}})
		g.say(api.SayRiichi, 0, at(15, 0)).quiet().goOn(3)
		if d := g.deal(); d.Turn != 0 || d.Players[0].Riichi != 2 || d.Drawn/4 != c.draw {
			t.Fatal(d)
		}
		g.refuses(c.want, api.SayClosed, 0, at(c.again, 0))
	}
}

// TestClosed (P6.2): a closed kong is laid at once where closed kongs cannot be robbed, and the last tile of the live wall replaces its fourth tile.
func TestClosed(t *testing.T) {
	for rob := range 2 {
		h := telling(broad(), api.Play{Rob: rob})
		hands := [][]int{{3, 3, 3, 3, 1, 6, 9}, {1, 4, 7, 10, 13, 18, 21}, {1, 4, 7, 10, 13, 18, 21}, {1, 4, 7, 10, 13, 18, 21}}
		g := lay(t, h, layout{hands: hands, draws: []int{12}, back: []int{15}})
		want := g.deal()
		want.Players[0].Hand = []int{at(1, 0), at(6, 0), at(9, 0), at(12, 0), at(15, 0)}
		want.Players[0].Melds = []api.Meld{{Group: api.Group{What: api.Kong, Kind: 3}, Tiles: of(3, 4), From: 0}}
		want.Drawn, want.Kong, want.Calls, want.Live = at(15, 0), true, 1, want.Live[:len(want.Live)-1]
		g.say(api.SayClosed, 0, at(3, 2))
		if !sameDeal(g.deal(), want) {
			t.Error(g.deal(), want)
		}
		// Kong is true until the next draw, or call.
		g.ask(at(15, 0))
		if d := g.deal(); d.Kong || d.Drawn != none {
			t.Error(d)
		}
		if g.quiet().deal().Kong {
			t.Error(g.deal())
		}
	}
}

// pungs is a deal in which seat 1 has called the pung of 9, from seat 0, and has 3 (by a chow with 4 and 5 from seat 0, if it is so), and three of 12.
func pungs(t *testing.T, p api.Play) *game {
	t.Helper()
	hands := [][]int{{9, 6, 3, 1, 18, 20, 21}, {9, 9, 9, 4, 5, 12, 15}, {1, 4, 7, 10, 13, 18, 21}, {1, 4, 7, 10, 13, 18, 21}}
	return lay(t, telling(broad(), p), layout{hands: hands, draws: []int{22, 20, 20, 20, 0, 0, 0, 3}, back: []int{16, 17}})
}

// TestAddErrors (P6.2): a tile is added only to a declared pung, not at once after a call, nor by a dead seat.
func TestAddErrors(t *testing.T) {
	g := pungs(t, api.Play{Chows: true})
	g.refuses(api.ErrForm, api.SayAdd, 0, at(9, 0)).refuses(api.ErrMissing, api.SayAdd, 0, at(9, 1)).ask(at(9, 0)).say(api.SayPung, 1, none, at(9, 1), at(9, 3)).quiet()
	g.refuses(api.ErrState, api.SayAdd, 1, at(9, 2)).refuses(api.ErrForm, api.SayAdd, 1, at(12, 0)).refuses(api.ErrMissing, api.SayAdd, 1, at(9, 1)).refuses(api.ErrMissing, api.SayAdd, 1, none)
	g.drop(at(15, 0)).goOn(2)
	// Seat 0 discards 3, and seat 1 calls a chow with it; that is no pung of 3.
	g.ask(at(3, 0)).say(api.SayChow, 1, none, at(4, 0), at(5, 0)).quiet().drop(at(12, 0)).goOn(3)
	if d := g.deal(); d.Turn != 1 || d.Drawn != at(3, 1) || len(d.Players[1].Melds) != 2 {
		t.Fatal(d)
	}
	g.refuses(api.ErrForm, api.SayAdd, 1, at(3, 1)).refuses(api.OK, api.SayAdd, 1, at(9, 2))
	dead := g.also().say(api.SaySelf, 1, none)
	dead.refuses(api.ErrState, api.SayAdd, 1, at(9, 2)).refuses(api.ErrForm, api.SayAdd, 1, at(3, 1)).refuses(api.ErrMissing, api.SayAdd, 1, at(9, 1))
	// A tile cannot be added to a kong, nor twice.
	g.say(api.SayAdd, 1, at(9, 2)).refuses(api.ErrMissing, api.SayAdd, 1, at(9, 2)).refuses(api.ErrForm, api.SayAdd, 1, g.deal().Drawn)
	// Without a tile that could replace it there is no kong.
	s := shown().Set
	s.Dragons = 2
	for _, c := range []struct {
		dead int
		want api.Errno
	}{{3, api.OK}, {4, api.ErrState}} {
		s.Dead = c.dead
		g := lay(t, telling(s, api.Play{}), layout{hands: [][]int{{0, 1, 2, 4}, {0, 0, 0, 3}, {1, 1, 2, 3}}, draws: []int{3, 4, 4}})
		g.ask(at(0, 0)).say(api.SayPung, 1, none, at(0, 1), at(0, 2)).quiet().drop(at(3, 0)).goOn(2)
		g.refuses(c.want, api.SayAdd, 1, at(0, 3)).refuses(api.ErrForm, api.SayAdd, 1, g.deal().Drawn)
	}
}

// TestAdd (P6.2): where added kongs cannot be robbed, the pung is a kong at once: it keeps its place, and from whom it came.
func TestAdd(t *testing.T) {
	g := pungs(t, api.Play{Chows: true})
	g.ask(at(9, 0)).say(api.SayPung, 1, none, at(9, 1), at(9, 3)).quiet().drop(at(15, 0)).goOn(2)
	g.ask(at(3, 0)).say(api.SayChow, 1, none, at(4, 0), at(5, 0)).quiet().drop(at(12, 0)).goOn(3)
	want := g.deal()
	want.Players[1].Hand = []int{at(3, 1), at(16, 0)}
	want.Players[1].Melds[0].Group.What, want.Players[1].Melds[0].Tiles = api.Kong, of(9, 4)
	want.Drawn, want.Kong, want.Calls, want.Live = at(16, 0), true, 3, want.Live[:len(want.Live)-1]
	g.say(api.SayAdd, 1, at(9, 2))
	if d := g.deal(); !sameDeal(d, want) || d.Players[1].Melds[0].From != 0 {
		t.Error(d, want)
	}
}

// TestSelf (P6.2): who says that it wins with what it drew, wins, or makes a foul; the dead do not win, nor does anybody at once after a call.
func TestSelf(t *testing.T) {
	h := telling(wide(), api.Play{})
	l := layout{hands: [][]int{{0, 1, 2, 9}, {9, 12, 20, 20}, {3, 6, 12, 15}, {3, 6, 12, 15}}, draws: []int{9, 20}}
	g := lay(t, h, l)
	g.also().say(api.SaySelf, 0, none).over(api.Result{What: api.ResultWin, Wins: []api.WinRow{{Who: 0, From: 0, Value: flag(api.FlagFirst), Points: flag(api.FlagFirst), Liable: -1}}})
	l.draws[0] = 10
	foul := lay(t, h, l).say(api.SaySelf, 0, none)
	want := lay(t, h, l).deal()
	want.Players[0].Dead = true
	if !sameDeal(foul.deal(), want) {
		t.Error(foul.deal())
	}
	foul.refuses(api.ErrState, api.SaySelf, 0, none)
	h.Play.Foul = api.FoulEnd
	end := lay(t, h, l).say(api.SaySelf, 0, none)
	end.over(api.Result{What: api.ResultFoul, Fouls: []int{0}})
	if end.player(0).Dead {
		t.Error(end.deal())
	}
	// Seat 1 would win with what it has after its pung, but it drew nothing.
	l = layout{hands: [][]int{{20, 3, 6, 12}, {9, 9, 20, 20}, {3, 6, 12, 15}, {3, 6, 12, 15}}, draws: []int{15}}
	lay(t, h, l).ask(at(20, 0)).say(api.SayPung, 1, none, at(20, 1), at(20, 2)).quiet().refuses(api.ErrState, api.SaySelf, 1, none)
}

// TestNines (P6.2): in its first turn, before any call, a seat with enough different orphans may end the deal, also a dead one.
func TestNines(t *testing.T) {
	hands := [][]int{{0, 8, 9, 0}, {8, 17, 18, 18}, {20, 20, 21, 22}, {3, 6, 12, 15}}
	game := func(nines int) *game {
		return lay(t, telling(wide(), api.Play{Nines: nines}), layout{hands: hands, draws: []int{22, 19, 5, 5, 18}})
	}
	g := game(4)
	g.also().say(api.SayNines, 0, none).over(api.Result{What: api.ResultAbort})
	g.also().say(api.SaySelf, 0, none).say(api.SayNines, 0, none).over(api.Result{What: api.ResultAbort})
	game(5).refuses(api.ErrState, api.SayNines, 0, none)
	game(0).refuses(api.ErrState, api.SayNines, 0, none)
	// The second seat has four, too (the kind 18 counts once); in its second turn the first one may not any more.
	g.drop(at(22, 1)).refuses(api.OK, api.SayNines, 1, none)
	g.goOn(3)
	if d := g.deal(); d.Turn != 0 {
		t.Fatal(d)
	}
	g.refuses(api.ErrState, api.SayNines, 0, none)
	// After a call nobody may, neither the one who called, nor one who draws.
	hands[0], hands[1] = []int{0, 8, 9, 3}, []int{0, 0, 17, 18}
	g = game(2).ask(at(0, 0)).say(api.SayPung, 1, none, at(0, 1), at(0, 2)).quiet()
	g.refuses(api.ErrState, api.SayNines, 1, none).drop(at(17, 0)).refuses(api.ErrState, api.SayNines, 2, none)
}

// TestOptionLists (P6.5): options are by kind, then by tile, then by tiles; there is one for each kind of which a closed kong can be declared.
func TestOptionLists(t *testing.T) {
	h := telling(wide(), api.Play{Chows: true, Riichi: true, Nines: 1, Heads: 3})
	g := lay(t, h, layout{hands: [][]int{{22, 22, 22, 22}, {0, 1, 1, 2}, {3, 3, 3, 4}, {4, 5, 12, 12}}, draws: []int{3}})
	discards, riichi := []api.Message{}, []api.Message{}
	for _, x := range append([]int{at(3, 3)}, of(22, 4)...) {
		discards = append(discards, saying(api.SayDiscard, 0, 0, x))
		if x != at(3, 3) {
			riichi = append(riichi, saying(api.SayRiichi, 0, 0, x))
		}
	}
	want := append(append(discards, riichi...), saying(api.SayClosed, 0, 0, at(22, 0)), saying(api.SayNines, 0, 0, none))
	if l := g.options(0); !same(l, want) {
		t.Error(l, want)
	}
	g.ask(at(3, 3))
	for seat, want := range [][]api.Message{
		nil,
		{saying(api.SayPass, 1, 0, none), saying(api.SayChow, 1, 0, none, at(1, 0), at(2, 0)), saying(api.SayChow, 1, 0, none, at(1, 1), at(2, 0))},
		{saying(api.SayPass, 2, 0, none), saying(api.SayPung, 2, 0, none, at(3, 0), at(3, 1)), saying(api.SayPung, 2, 0, none, at(3, 0), at(3, 2)), saying(api.SayPung, 2, 0, none, at(3, 1), at(3, 2)), saying(api.SayKong, 2, 0, none, of(3, 3)...)},
		{saying(api.SayPass, 3, 0, none), saying(api.SayWin, 3, 0, none)},
	} {
		if l := g.options(seat); !same(l, want) {
			t.Error(seat, l, want)
		}
	}
	g.pass(3)
	if l := g.options(3); len(l) > 0 {
		t.Error(l)
	}
	// Two kinds of kongs, one of them added; and a win.
	g = pungs(t, api.Play{})
	g.ask(at(9, 0)).say(api.SayPung, 1, none, at(9, 1), at(9, 3)).quiet().drop(at(12, 0)).goOn(3)
	kongs := slices.DeleteFunc(g.options(1), func(m api.Message) bool { return m.Kind == api.SayDiscard })
	if !same(kongs, []api.Message{saying(api.SayAdd, 1, 0, at(9, 2))}) {
		t.Error(kongs)
	}
	hands := [][]int{{0, 0, 0, 0, 1, 1, 1}, {3, 6, 9, 12, 15, 18, 21}, {3, 6, 9, 12, 15, 18, 21}, {3, 6, 9, 12, 15, 18, 21}}
	g = lay(t, telling(broad(), api.Play{}), layout{hands: hands, draws: []int{1}})
	kongs = slices.DeleteFunc(g.options(0), func(m api.Message) bool { return m.Kind == api.SayDiscard })
	if !same(kongs, []api.Message{saying(api.SayClosed, 0, 0, at(0, 0)), saying(api.SayClosed, 0, 0, at(1, 0))}) {
		t.Error(kongs)
	}
	hands[0] = []int{0, 0, 0, 1, 1, 1, 2}
	g = lay(t, telling(broad(), api.Play{}), layout{hands: hands, draws: []int{2}})
	if l := g.options(0); len(l) != 9 || !same(l[8], saying(api.SaySelf, 0, 0, none)) {
		t.Error(l)
	}
}

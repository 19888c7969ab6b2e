package table_test

import (
	"slices"
	"testing"

	"sparrow/api"
	"sparrow/table"
)

// saying makes a message.
func saying(kind, who, tick, t int, tiles ...int) api.Message {
	return api.Message{Kind: kind, Who: who, Tick: tick, Tile: t, Tiles: tiles}
}

// TestMessageErrors (P6.2, P1): a message that has several errors is refused with the first one.
func TestMessageErrors(t *testing.T) {
	turn := begin(t, shown(), row(), 0)
	turn.x, _, _ = table.Run(turn.x, []api.Message{saying(api.SayDiscard, 0, 3, 0), saying(api.SayPass, 1, 5, none), saying(api.SayPass, 2, 5, none)})
	if d := turn.deal(); d.Turn != 1 || d.Tick != 5 || d.Phase != api.PhaseTurn {
		t.Fatal(d)
	}
	own := turn.deal().Drawn
	for _, c := range []struct {
		m    api.Message
		want api.Errno
	}{
		{saying(13, 9, -1, 99), api.ErrKind}, {saying(0, 9, -1, 99), api.ErrKind}, {saying(-1, 1, 5, own), api.ErrKind},
		{saying(api.SayPass, 3, 4, 99), api.ErrRange}, {saying(api.SayDiscard, -1, 5, own), api.ErrRange}, {saying(api.SayDiscard, 1, -1, own), api.ErrRange},
		{saying(api.SayDiscard, 1, api.MaxTick+1, own), api.ErrRange}, {saying(api.SayClock, 99, -1, 99), api.ErrRange}, {saying(api.SayClock, 99, api.MaxTick+1, 99), api.ErrRange},
		{saying(api.SayPass, 0, 4, 99), api.ErrOrder}, {saying(api.SayDiscard, 1, 4, own), api.ErrOrder}, {saying(api.SayClock, -1, 4, own), api.ErrOrder},
		{saying(api.SayPass, 0, 5, 99), api.ErrState}, {saying(api.SayClock, 99, 5, 99), api.ErrState}, {saying(api.SayWin, 1, 5, own), api.ErrState},
		{saying(api.SayDiscard, 0, 5, 99), api.ErrTurn}, {saying(api.SayNines, 2, 5, 99), api.ErrTurn}, {saying(api.SaySelf, 0, 5, 99), api.ErrTurn},
		{saying(api.SayDiscard, 1, 5, 99), api.ErrMissing}, {saying(api.SayDiscard, 1, 5, own), api.OK}, {saying(api.SayDiscard, 1, api.MaxTick, own), api.OK},
	} {
		turn.refusesMessage(c.want, c.m)
	}
	over := begin(t, shown(), row(), 0).ask(0)
	over.pass(1).say(api.SayWin, 2, none)
	for i := 0; !table.Over(over.x) && i < 9; i++ {
		over.goOn(1)
	}
	over.refusesMessage(api.ErrState, saying(13, 9, -1, 99)).refusesMessage(api.ErrState, saying(api.SayPass, 0, 0, none))
}

// TestClaimErrors (P6.2): who discarded claims nothing, nor does who is late, dead, or has said something already; a clock does not ring too early.
func TestClaimErrors(t *testing.T) {
	h := telling(wide(), api.Play{Time: 7, Chows: true})
	g := lay(t, h, layout{hands: [][]int{{0, 3, 6, 9}, {1, 2, 0, 0}, {3, 6, 9, 12}, {18, 19, 20, 21}}, draws: []int{22}})
	x, e := table.Do(g.x, saying(api.SayDiscard, 0, 100, at(0, 0)))
	if g.x = x; e != api.OK {
		t.Fatal(e)
	}
	g.say(api.SayWin, 2, none).say(api.SayPass, 3, none)
	if d := g.deal(); !d.Players[2].Dead || d.Since != 100 || len(d.Said) != 1 {
		t.Fatal(d)
	}
	for _, c := range []struct {
		m    api.Message
		want api.Errno
	}{
		{saying(api.SayDiscard, 0, 108, at(3, 0)), api.ErrState}, {saying(api.SayNines, 1, 100, none), api.ErrState}, {saying(api.SaySelf, 0, 100, none), api.ErrState},
		{saying(api.SayPass, 0, 108, none), api.ErrTurn}, {saying(api.SayWin, 0, 107, none), api.ErrTurn}, {saying(api.SayChow, 0, 107, none), api.ErrTurn},
		{saying(api.SayPass, 2, 108, none), api.ErrLate}, {saying(api.SayPass, 3, 108, none), api.ErrLate}, {saying(api.SayPung, 1, 108, none, at(0, 1), at(0, 2)), api.ErrLate}, {saying(api.SayWin, 1, 108, none), api.ErrLate},
		{saying(api.SayPass, 2, 107, none), api.ErrState}, {saying(api.SayKong, 2, 107, none), api.ErrState}, {saying(api.SayWin, 2, 107, none), api.ErrState},
		{saying(api.SayPass, 3, 107, none), api.ErrExists}, {saying(api.SayChow, 3, 107, none), api.ErrExists}, {saying(api.SayPung, 3, 107, none), api.ErrExists}, {saying(api.SayKong, 3, 107, none), api.ErrExists}, {saying(api.SayWin, 3, 107, none), api.ErrExists},
		{saying(api.SayClock, 3, 106, none), api.ErrState}, {saying(api.SayClock, 0, 99, none), api.ErrOrder}, {saying(api.SayClock, -9, 107, none), api.OK}, {saying(api.SayClock, 99, 10000, none), api.OK},
		{saying(api.SayPass, 1, 107, none), api.OK}, {saying(api.SayPung, 1, 107, none, at(0, 1), at(0, 2)), api.OK}, {saying(api.SayPass, 1, 99, none), api.ErrOrder},
	} {
		g.refusesMessage(c.want, c.m)
	}
	// The time runs from the discard on, not from the last message.
	l := []api.Message{saying(api.SayDiscard, 0, 10, at(0, 0)), saying(api.SayPass, 3, 14, none), saying(api.SayPass, 2, 18, none)}
	x, n, e := table.Run(lay(t, h, layout{hands: junk()}).x, l)
	if n != 2 || e != api.ErrLate {
		t.Error(n, e)
	}
	g.x = x
	g.refusesMessage(api.ErrState, saying(api.SayClock, 0, 16, none)).refusesMessage(api.OK, saying(api.SayClock, 0, 17, none)).refusesMessage(api.OK, saying(api.SayPass, 2, 17, none))
	// When the clock may ring, it is no option either.
	g.x, e = table.Do(x, saying(api.SayPass, 2, 17, none))
	if l := table.Options(g.x, 1); e != api.OK || len(l) != 1 || l[0].Kind != api.SayPass || l[0].Tick != 17 {
		t.Error(e, l)
	}
}

// TestUnused (P6.2): what a message does not use does not matter, and is not kept.
func TestUnused(t *testing.T) {
	h := telling(wide(), api.Play{Chows: true, Riichi: true, Rob: 2, Nines: 1})
	l := layout{hands: [][]int{{0, 0, 0, 0}, {1, 2, 9, 9}, {1, 1, 10, 10}, {1, 2, 12, 18}}, draws: []int{5}}
	g := lay(t, h, l)
	both := func(g *game, a, b api.Message) *game {
		t.Helper()
		x, e := table.Do(g.x, a)
		y, f := table.Do(g.x, b)
		if e != api.OK || f != api.OK || !sameDeal(table.State(x), table.State(y)) {
			t.Fatal(a, e, f, table.State(x), table.State(y))
		}
		return &game{t, y}
	}
	both(g, saying(api.SaySelf, 0, 0, none), saying(api.SaySelf, 0, 0, 88, 5, 6))
	both(g, saying(api.SayNines, 0, 0, none), saying(api.SayNines, 0, 0, 88, 5, 6))
	both(g, saying(api.SayRiichi, 0, 0, at(0, 3)), saying(api.SayRiichi, 0, 0, at(0, 3), 99, 3))
	both(g, saying(api.SayClosed, 0, 0, at(0, 2)), saying(api.SayClosed, 0, 0, at(0, 2), 99, 3))
	g = both(g, saying(api.SayDiscard, 0, 0, at(0, 0)), saying(api.SayDiscard, 0, 0, at(0, 0), 99, 3))
	g = both(g, saying(api.SayPass, 2, 0, none), saying(api.SayPass, 2, 0, 88, 99, 3))
	both(g, saying(api.SayClock, 0, 5, none), saying(api.SayClock, 99, 5, 88, 99, 3))
	both(g, saying(api.SayWin, 1, 0, none), saying(api.SayWin, 1, 0, 88, 99, 3))
	called := both(g, saying(api.SayChow, 1, 0, none, at(1, 0), at(2, 0)), saying(api.SayChow, 1, 0, 88, at(2, 0), at(1, 0)))
	want := []api.Message{saying(api.SayPass, 2, 0, none), saying(api.SayChow, 1, 0, none, at(1, 0), at(2, 0))}
	if d := called.deal(); !same(d.Said, want) {
		t.Error(d.Said)
	}
	won := both(g, saying(api.SayWin, 1, 0, none), saying(api.SayWin, 1, 0, 88, 7))
	if d := won.deal(); !same(d.Said, []api.Message{want[0], saying(api.SayWin, 1, 0, none)}) {
		t.Error(d.Said)
	}
}

// TestTick (P6.1, P6.2): a table has the tick of the last message; fouls count, too, and what is refused does not.
func TestTick(t *testing.T) {
	g := begin(t, shown(), row(), 0)
	ticks := []int{g.deal().Tick}
	for _, m := range []api.Message{saying(api.SaySelf, 0, 2, none), saying(api.SayDiscard, 0, 4, 99), saying(api.SayDiscard, 0, 4, 0), saying(api.SayWin, 1, 6, none), saying(api.SayPass, 2, 7, none), saying(api.SayPass, 2, 9, none)} {
		g.x, _ = table.Do(g.x, m)
		ticks = append(ticks, g.deal().Tick)
	}
	if !slices.Equal(ticks, []int{0, 2, 2, 4, 6, 7, 7}) {
		t.Error(ticks)
	}
}

// TestRun (P6.3): messages are done up to the first one that has an error; at most MaxRun of them are taken.
func TestRun(t *testing.T) {
	g := begin(t, shown(), row(), 0)
	l := []api.Message{saying(api.SayDiscard, 0, 1, 0), saying(api.SayPass, 1, 2, none), saying(api.SayPass, 1, 3, none), saying(api.SayPass, 2, 4, none)}
	x, n, e := table.Run(g.x, l)
	if d := table.State(x); n != 2 || e != api.ErrExists || d.Tick != 2 || len(d.Said) != 1 || d.Phase != api.PhaseClaims {
		t.Error(n, e, d)
	}
	x, n, e = table.Run(g.x, slices.Delete(l, 2, 3))
	if d := table.State(x); n != -1 || e != api.OK || d.Tick != 4 || d.Turn != 1 {
		t.Error(n, e, d)
	}
	x, n, e = table.Run(g.x, nil)
	if n != -1 || e != api.OK || !sameDeal(table.State(x), g.deal()) {
		t.Error(n, e)
	}
	many := slices.Repeat([]api.Message{saying(api.SaySelf, 9, 0, none)}, api.MaxRun+1)
	x, n, e = table.Run(g.x, many)
	if n != -1 || e != api.ErrFull || !sameDeal(table.State(x), g.deal()) {
		t.Error(n, e)
	}
	if x, n, e = table.Run(g.x, many[1:]); n != 0 || e != api.ErrRange || !sameDeal(table.State(x), g.deal()) {
		t.Error(n, e)
	}
}

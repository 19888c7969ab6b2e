package evening_test

import (
	"math"
	"slices"
	"testing"

	"sparrow/api"
	"sparrow/evening"
)

// needed checks what a player needs for a place, from each seat.
func needed(t *testing.T, e api.Evening, player, place int, want ...int) {
	t.Helper()
	l, f := evening.Needs(e, player, place)
	if f != api.OK || len(l) != len(want) {
		t.Error(player, place, l, f)
		return
	}
	for from, n := range want {
		if l[from] != (api.Need{From: from, Points: n}) {
			t.Error(player, place, l)
		}
	}
}

// TestStandings (P7.4): the order of the seats, and what their places add; the points of the sticks go to the first one.
func TestStandings(t *testing.T) {
	even := at(24000, 25000, 25000, 24000)
	even.Sticks = 2
	lead := calm(-3000, 25000, 26000, 50000)
	lead.Sticks = 2
	bare := calm(24000, 25000, 25000, 26000)
	bare.House.Pay.Places = nil
	few := begin(t, three())
	few.Points = []int{20000, 30000, 25000}
	for i, c := range []struct {
		e    api.Evening
		want []api.Standing
	}{
		{begin(t, four()), []api.Standing{{Seat: 0, Points: 25000, Total: 20000}, {Seat: 1, Place: 1, Points: 25000, Total: 10000}, {Seat: 2, Place: 2, Points: 25000, Total: -10000}, {Seat: 3, Place: 3, Points: 25000, Total: -20000}}},
		{even, []api.Standing{{Seat: 1, Points: 27000, Total: 22000}, {Seat: 2, Place: 1, Points: 25000, Total: 10000}, {Seat: 0, Place: 2, Points: 24000, Total: -11000}, {Seat: 3, Place: 3, Points: 24000, Total: -21000}}},
		{lead, []api.Standing{{Seat: 3, Points: 52000, Total: 47000}, {Seat: 2, Place: 1, Points: 26000, Total: 11000}, {Seat: 1, Place: 2, Points: 25000, Total: -10000}, {Seat: 0, Place: 3, Points: -3000, Total: -48000}}},
		{bare, []api.Standing{{Seat: 3, Points: 26000, Total: 1000}, {Seat: 1, Place: 1, Points: 25000}, {Seat: 2, Place: 2, Points: 25000}, {Seat: 0, Place: 3, Points: 24000, Total: -1000}}},
		{few, []api.Standing{{Seat: 1, Points: 30000, Total: 20000}, {Seat: 2, Place: 1, Points: 25000}, {Seat: 0, Place: 2, Points: 20000, Total: -20000}}},
	} {
		if l := evening.Standings(c.e); !slices.Equal(l, c.want) {
			t.Error(i, l)
		}
		if l, f := evening.Final(c.e); f != api.ErrState || len(l) > 0 {
			t.Error(i, l, f)
		}
		c.e.Round = c.e.House.Pay.Rounds
		if l, f := evening.Final(c.e); f != api.OK || !slices.Equal(l, c.want) || !slices.Equal(evening.Standings(c.e), c.want) {
			t.Error(i, l, f)
		}
	}
}

// TestFinal (P7.4): an evening that is over has final standings, whatever it ended by.
func TestFinal(t *testing.T) {
	for i, change := range []func(e *api.Evening){
		func(e *api.Evening) { e.Round = 1 }, func(e *api.Evening) { e.Deals = 1000 }, func(e *api.Evening) { e.Points = []int{-1, 50001, 25000, 25000} },
	} {
		e := begin(t, four())
		change(&e)
		if l, f := evening.Final(e); f != api.OK || !slices.Equal(l, evening.Standings(e)) || len(l) != 4 {
			t.Error(i, l, f)
		}
	}
}

// TestNeeds (P7.5): what a player needs, with counters and sticks, drawn and from others; and what is out of reach.
func TestNeeds(t *testing.T) {
	e := at(25000, 27700, 19000, 28300)
	e.Dealer, e.Deals = 2, 4
	needed(t, e, 0, 0, 601, 801, 801, 651)
	for _, place := range []int{2, 3} {
		needed(t, e, 0, place, 0, 0, 0, 0)
	}
	needed(t, e, 3, 0, 0, 0, 0, 0)
	needed(t, e, 2, 3, 0, 0, 0, 0)
	needed(t, e, 2, 2, 501, 717, 751, 767)
	// With a lesser seat it is enough to have as many points, with a greater one it is not.
	even := calm(20000, 30000, 20000, 30000)
	even.House.Pay.Dealer, even.House.Scale.Round = false, 1
	needed(t, even, 0, 0, 2500, 3334, 3334, 3334)
	needed(t, even, 2, 0, 3334, 3334, 2501, 3334)
	needed(t, even, 2, 1, 3334, 1667, 2500, 1667)
	needed(t, even, 2, 2, 1, 1, 1, 1)
	// Counters and sticks are of use.
	rich := calm(19000, 30000, 20000, 30000)
	rich.House.Pay.Dealer, rich.House.Scale.Round, rich.Sticks, rich.Counters = false, 1, 1, 3
	needed(t, rich, 0, 0, 2200, 3034, 3034, 3034)
	// No number of points is enough, or just the greatest one is.
	far := calm(100000-1<<39, 1<<39, 0, 0)
	needed(t, far, 2, 0, -1, -1, -1, -1)
	needed(t, far, 2, 1, 0, 0, 0, 0)
	last := calm(-3000000, 0, 0, 3100000)
	last.House.Pay.Dealer = false
	needed(t, last, 1, 0, -1, 774901, -1, 516634)
	edge := calm(-2900000, 0, 0, 3000000)
	edge.House.Pay.Dealer, edge.House.Scale.Round = false, 1
	needed(t, edge, 1, 0, 1000000, 750000, 1000000, 500000)
	edge.Points = []int{-2900001, 0, 0, 3000001}
	needed(t, edge, 1, 0, -1, 750001, -1, 500001)
}

// TestNeedsWithoutBounds (P7.5): it does not matter whether points would go beyond MaxTotal.
func TestNeedsWithoutBounds(t *testing.T) {
	most := api.MaxTotal
	e := calm(most-100, most, -most, 100100-most)
	e.House.Pay.Dealer, e.House.Scale.Round = false, 1
	needed(t, e, 0, 0, 25, 17, 34, 34)
	needed(t, e, 1, 0, 0, 0, 0, 0)
}

// TestErrorsOfNeeds (P7.5, R1): an evening's errors, and that it is over, come before those of player and place.
func TestErrorsOfNeeds(t *testing.T) {
	over, wrong := begin(t, four()), begin(t, four())
	over.Round, wrong.Points[0] = 1, 0
	for i, c := range []struct {
		e             api.Evening
		player, place int
		want          api.Errno
	}{
		{begin(t, four()), 4, 0, api.ErrRange}, {begin(t, four()), -1, 0, api.ErrRange}, {begin(t, four()), 0, 4, api.ErrRange}, {begin(t, four()), 0, -1, api.ErrRange}, {begin(t, four()), math.MinInt, math.MaxInt, api.ErrRange}, {begin(t, four()), 3, 3, api.OK}, {begin(t, three()), 3, 0, api.ErrRange}, {begin(t, three()), 0, 3, api.ErrRange},
		{over, 4, 0, api.ErrState}, {over, 0, 0, api.ErrState}, {wrong, 4, 0, api.ErrClash}, {wrong, 0, 0, api.ErrClash},
	} {
		if l, f := evening.Needs(c.e, c.player, c.place); f != c.want || f != api.OK && len(l) > 0 {
			t.Error(i, l, f)
		}
	}
}

package evening_test

import (
	"math"
	"slices"
	"testing"

	"sparrow/api"
	"sparrow/evening"
	"sparrow/house"
)

// TestBegin (P7.1, P7.7): each seat has Start points, seat 0 deals, all else is 0.
func TestBegin(t *testing.T) {
	for i, h := range []api.House{four(), three()} {
		want := api.Evening{House: h, Points: slices.Repeat([]int{25000}, h.Set.Players)}
		e := begin(t, h)
		if !evening.Same(e, want) || evening.Check(e) != api.OK || evening.Over(e) {
			t.Error(i, e)
		}
	}
	for i, h := range wrong() {
		if e, f := evening.Begin(h); f != house.CheckHouse(h) || !evening.Same(e, api.Evening{}) {
			t.Error(i, e, f)
		}
	}
	free := four()
	free.Pay.Start = 0
	if e := begin(t, free); !slices.Equal(e.Points, []int{0, 0, 0, 0}) || evening.Over(e) {
		t.Error(e)
	}
}

// TestCheck (P7.1, R1): an evening's errors, of two the first one.
func TestCheck(t *testing.T) {
	most := api.MaxTotal
	for i, c := range []struct {
		change func(e *api.Evening)
		want   api.Errno
	}{
		{func(e *api.Evening) {}, api.OK},
		{func(e *api.Evening) { e.House.Forms, e.Points = nil, nil }, house.CheckHouse(wrong()[1])},
		{func(e *api.Evening) { e.House.Pay.Mode, e.Dealer = 4, 9 }, api.ErrKind},
		{func(e *api.Evening) { e.Points = nil }, api.ErrForm},
		{func(e *api.Evening) { e.Points, e.Dealer = []int{most + 1, 0, 0}, 9 }, api.ErrForm},
		{func(e *api.Evening) { e.Points = append(e.Points, 0) }, api.ErrForm},
		{func(e *api.Evening) { e.Points = []int{most, 100000 - most, 0, 0} }, api.OK},
		{func(e *api.Evening) { e.Points = []int{-most, most, 50000, 50000} }, api.OK},
		{func(e *api.Evening) { e.Points = []int{most + 1, 99999 - most, 0, 0} }, api.ErrRange},
		{func(e *api.Evening) { e.Points = []int{0, 0, 100001 + most, -most - 1} }, api.ErrRange},
		{func(e *api.Evening) { e.Points[3] = math.MinInt }, api.ErrRange},
		{func(e *api.Evening) { e.Points[3] = math.MaxInt }, api.ErrRange},
		{func(e *api.Evening) { e.Dealer = 3 }, api.OK},
		{func(e *api.Evening) { e.Dealer = 4 }, api.ErrRange},
		{func(e *api.Evening) { e.Dealer = -1 }, api.ErrRange},
		{func(e *api.Evening) { e.Round = 1 }, api.OK},
		{func(e *api.Evening) { e.Round = 2 }, api.ErrRange},
		{func(e *api.Evening) { e.Round = -1 }, api.ErrRange},
		{func(e *api.Evening) { e.Counters = 100 }, api.OK},
		{func(e *api.Evening) { e.Counters = 101 }, api.ErrRange},
		{func(e *api.Evening) { e.Counters = -1 }, api.ErrRange},
		{func(e *api.Evening) { e.Sticks, e.Points[0] = 4000, 25000-4000000 }, api.OK},
		{func(e *api.Evening) { e.Sticks, e.Points[0] = 4001, 25000-4001000 }, api.ErrRange},
		{func(e *api.Evening) { e.Sticks, e.Points[0] = -1, 26000 }, api.ErrRange},
		{func(e *api.Evening) { e.Deals = 1000 }, api.OK},
		{func(e *api.Evening) { e.Deals = 1001 }, api.ErrRange},
		{func(e *api.Evening) { e.Deals = -1 }, api.ErrRange},
		{func(e *api.Evening) { e.Points[0], e.Deals = 0, 1001 }, api.ErrRange},
		{func(e *api.Evening) { e.Points[3]++ }, api.ErrClash},
		{func(e *api.Evening) { e.Points[0]-- }, api.ErrClash},
		{func(e *api.Evening) { e.Sticks = 1 }, api.ErrClash},
		{func(e *api.Evening) { e.Sticks, e.Points[2] = 2, 23000 }, api.OK},
		{func(e *api.Evening) { e.House.Pay.Stick, e.Sticks = 0, 7 }, api.OK},
		{func(e *api.Evening) { e.House.Pay.Start = 24999 }, api.ErrClash},
	} {
		e := begin(t, four())
		c.change(&e)
		if f := evening.Check(e); f != c.want {
			t.Error(i, f)
		}
		if c.want != api.OK {
			refused(t, e, c.want)
		}
	}
}

// refused checks what all functions return for an evening that is not valid, against R3, too.
func refused(t *testing.T, e api.Evening, want api.Errno) {
	t.Helper()
	for i, r := range []api.Result{{}, abort(), win(row(1, 2, 480))} {
		l, f := evening.Changes(e, r)
		x, g := evening.Apply(e, r)
		if evening.CheckResult(e, r) != want || f != want || g != want || len(l) > 0 || !evening.Same(x, api.Evening{}) {
			t.Error(i, l, f, x, g)
		}
	}
	final, f := evening.Final(e)
	needs, g := evening.Needs(e, -1, 9)
	if f != want || g != want || len(final) > 0 || len(needs) > 0 || len(evening.Standings(e)) > 0 {
		t.Error(final, f, needs, g)
	}
	if evening.Over(e) || evening.Wind(e, 0) != -1 || evening.Wind(e, 9) != -1 || evening.RoundWind(e) != -1 {
		t.Error("it is over, or has winds")
	}
}

// TestOver (P7.1): an evening is over after all rounds, after all deals, or if somebody is bust.
func TestOver(t *testing.T) {
	bust, free := at(-1, 25000, 25000, 50001), calm(-1, 25000, 25000, 50001)
	for i, c := range []struct {
		e            api.Evening
		round, deals int
		want         bool
	}{
		{at(25000, 25000, 25000, 25000), 0, 999, false}, {at(25000, 25000, 25000, 25000), 1, 0, true}, {at(25000, 25000, 25000, 25000), 0, 1000, true}, {bust, 0, 0, true}, {free, 0, 0, false}, {free, 1, 0, true}, {free, 0, 1000, true}, {at(0, 0, 50000, 50000), 0, 0, false},
	} {
		c.e.Round, c.e.Deals = c.round, c.deals
		if evening.Over(c.e) != c.want {
			t.Error(i)
		}
		c.e.Counters = -1
		if evening.Over(c.e) {
			t.Error(i, "is not valid")
		}
	}
	h := three()
	for round := range 3 {
		e := begin(t, h)
		e.Round = round
		if evening.Over(e) != (round == 2) {
			t.Error(round)
		}
	}
}

// TestWinds (P7.1): the winds of seats and rounds; the chapter's example.
func TestWinds(t *testing.T) {
	e, want := begin(t, four()), [][]int{{0, 1, 2, 3}, {3, 0, 1, 2}, {2, 3, 0, 1}, {1, 2, 3, 0}}
	for e.Dealer = range want {
		for seat, wind := range want[e.Dealer] {
			if n := evening.Wind(e, seat); n != wind {
				t.Error(e.Dealer, seat, n)
			}
		}
		for _, seat := range []int{-1, 4, math.MinInt, math.MaxInt} {
			if n := evening.Wind(e, seat); n != -1 {
				t.Error(seat, n)
			}
		}
	}
	few := begin(t, three())
	few.Dealer = 2
	if evening.Wind(few, 2) != 0 || evening.Wind(few, 0) != 1 || evening.Wind(few, 1) != 2 || evening.Wind(few, 3) != -1 {
		t.Error("three players")
	}
	for i, h := range []api.House{four(), three()} {
		h.Pay.Rounds = api.MaxRounds
		e, n := begin(t, h), h.Set.Players
		for e.Round = range api.MaxRounds + 1 {
			if w := evening.RoundWind(e); w != e.Round%n {
				t.Error(i, e.Round, w)
			}
		}
	}
}

package evening_test

import (
	"slices"
	"testing"

	"sparrow/api"
	"sparrow/evening"
	"sparrow/house"
	"sparrow/score"
)

// TestExample (P7.2, P7.4, P7.5): the evening of the chapter's examples.
func TestExample(t *testing.T) {
	e := begin(t, four())
	for i, c := range []struct {
		r                                      api.Result
		changes, points                        []int
		dealer, round, counters, sticks, deals int
	}{
		{win(row(1, 2, 480)), []int{0, 2000, -2000, 0}, []int{25000, 27000, 23000, 25000}, 1, 0, 0, 0, 1},
		{laid(draw(1), 1), []int{-1000, 2000, -1000, -1000}, []int{24000, 29000, 22000, 24000}, 1, 0, 1, 1, 2},
		{win(row(3, 1, 480)), []int{0, -2300, 0, 3300}, []int{24000, 26700, 22000, 27300}, 2, 0, 0, 0, 3},
		{foul(2), []int{1000, 1000, -3000, 1000}, []int{25000, 27700, 19000, 28300}, 2, 0, 0, 0, 4},
	} {
		l := changes(t, e, c.r)
		e = after(t, e, c.r)
		if !slices.Equal(l, c.changes) || !slices.Equal(e.Points, c.points) || e.Dealer != c.dealer || e.Round != c.round || e.Counters != c.counters || e.Sticks != c.sticks || e.Deals != c.deals {
			t.Error(i, l, e)
		}
	}
	want := []api.Standing{{Seat: 3, Points: 28300, Total: 23300}, {Seat: 1, Place: 1, Points: 27700, Total: 12700}, {Seat: 0, Place: 2, Points: 25000, Total: -10000}, {Seat: 2, Place: 3, Points: 19000, Total: -26000}}
	if l := evening.Standings(e); !slices.Equal(l, want) {
		t.Error(l)
	}
	needed(t, e, 0, 0, 601, 801, 801, 651)
	needed(t, e, 0, 2, 0, 0, 0, 0)
	if evening.Wind(e, 2) != 0 || evening.Wind(e, 3) != 1 || evening.Wind(e, 0) != 2 {
		t.Error("winds")
	}
	if _, f := evening.Final(e); f != api.ErrState {
		t.Error(f)
	}
}

// TestChanges (P7.2): what each seat gets by a result.
func TestChanges(t *testing.T) {
	one := at(25000, 24000, 25000, 25000)
	one.Sticks = 1
	counted := at(25000, 25000, 25000, 25000)
	counted.Counters, counted.Dealer = 2, 3
	basic := calm(25000, 25000, 25000, 25000)
	basic.House.Pay.Mode, basic.House.Pay.Basic, basic.House.Pay.Dealer, basic.House.Scale.Round = api.PayBasic, 8, false, 1
	few := begin(t, three())
	liable := win(row(1, 2, 480))
	liable.Wins[0].Liable = 3
	for i, c := range []struct {
		e    api.Evening
		r    api.Result
		want []int
	}{
		{one, abort(), []int{0, 0, 0, 0}}, {one, laid(abort(), 1, 3), []int{0, -1000, 0, -1000}},
		{one, draw(), []int{0, 0, 0, 0}}, {one, draw(0, 1, 2, 3), []int{0, 0, 0, 0}}, {one, draw(3), []int{-1000, -1000, -1000, 3000}}, {one, draw(0, 2), []int{1500, -1500, 1500, -1500}}, {one, draw(0, 1, 3), []int{1000, 1000, -3000, 1000}}, {one, laid(draw(0, 2), 2), []int{1500, -1500, 500, -1500}}, {one, laid(draw(), 0, 2), []int{-1000, 0, -1000, 0}},
		{one, win(row(1, 1, 100)), []int{-200, 1000 + 400, -100, -100}}, {one, laid(win(row(1, 1, 100)), 0, 1), []int{-1200, 2400, -100, -100}}, {one, laid(win(row(3, 2, 100), row(0, 2, 100)), 2), []int{600, 0, -600 - 400 - 1000, 400 + 2000}},
		{one, foul(0), []int{-3000, 1000, 1000, 1000}}, {one, foul(0, 3), []int{-2000, 2000, 2000, -2000}}, {one, foul(0, 1, 2), []int{-1000, -1000, -1000, 3000}}, {one, foul(0, 1, 2, 3), []int{0, 0, 0, 0}},
		{counted, win(row(0, 2, 100)), []int{400 + 600, 0, -400 - 600, 0}}, {counted, win(row(3, 3, 100)), []int{-400, -400, -400, 1200}}, {counted, win(row(3, 2, 100), row(0, 2, 100)), []int{400, 0, -400 - 600 - 600, 600 + 600}},
		{basic, win(row(1, 2, 24)), []int{-8, 48, -32, -8}}, {basic, win(row(1, 1, 24)), []int{-32, 96, -32, -32}},
		{few, draw(1), []int{-1500, 3000, -1500}}, {few, draw(1, 2), []int{-3000, 1500, 1500}}, {few, foul(2), []int{1000, 1000, -2000}}, {few, laid(win(row(2, 0, 100)), 1), []int{-300, -1000, 1300}},
		{begin(t, four()), liable, []int{0, 2000, -1000, -1000}},
	} {
		if l := changes(t, c.e, c.r); !slices.Equal(l, c.want) {
			t.Error(i, l)
		}
	}
}

// TestStays (P7.2): after which results the dealer stays, what becomes of counters, and who deals next.
func TestStays(t *testing.T) {
	for i, c := range []struct {
		stay, dealer, counters int
		r                      api.Result
		next, count, round     int
	}{
		{1, 0, 2, win(row(0, 2, 0)), 0, 3, 0}, {1, 0, 2, win(row(0, 0, 0)), 0, 3, 0}, {6, 0, 2, win(row(0, 2, 0)), 1, 3, 0}, {7, 0, 2, win(row(1, 2, 0)), 1, 0, 0}, {7, 0, 2, win(row(1, 0, 0)), 1, 0, 0}, {7, 0, 2, win(row(3, 2, 0), row(0, 2, 0)), 0, 3, 0}, {7, 3, 2, win(row(3, 2, 0), row(0, 2, 0)), 3, 3, 0}, {0, 3, 2, win(row(3, 2, 0)), 0, 3, 1},
		{2, 0, 2, draw(0), 0, 3, 0}, {5, 0, 2, draw(0), 1, 3, 0}, {7, 0, 2, draw(1), 1, 3, 0}, {7, 0, 2, draw(), 1, 3, 0}, {2, 1, 0, draw(0, 1, 2, 3), 1, 1, 0}, {2, 3, 0, draw(0, 1, 2), 0, 1, 1},
		{4, 0, 2, abort(), 0, 3, 0}, {3, 0, 2, abort(), 1, 3, 0}, {3, 3, 0, abort(), 0, 1, 1},
		{0, 0, 2, foul(1), 0, 2, 0}, {7, 3, 2, foul(3), 3, 2, 0}, {0, 3, 100, foul(0), 3, 100, 0},
		{7, 0, 99, abort(), 0, 100, 0}, {7, 0, 100, abort(), 0, 100, 0}, {7, 0, 100, draw(0), 0, 100, 0}, {7, 0, 100, win(row(0, 0, 0)), 0, 100, 0}, {7, 0, 100, win(row(1, 0, 0)), 1, 0, 0},
	} {
		e := calm(25000, 25000, 25000, 25000)
		e.House.Pay.Stay, e.House.Pay.Rounds, e.Dealer, e.Counters, e.Deals = c.stay, 2, c.dealer, c.counters, 7
		x := after(t, e, c.r)
		if x.Dealer != c.next || x.Counters != c.count || x.Round != c.round || x.Deals != 8 {
			t.Error(i, x)
		}
	}
}

// expected is the evening after a result, as the chapter's terms say it.
func expected(e api.Evening, r api.Result) api.Evening {
	x, pay, n := evening.Copy(e), e.House.Pay, len(e.Points)
	for _, seat := range r.Sticks {
		x.Points[seat] -= pay.Stick
	}
	x.Sticks += len(r.Sticks)
	stays, counters := false, e.Counters+1
	switch r.What {
	case api.ResultWin:
		gains, _ := score.Settle(e.House, e.Dealer, e.Counters, x.Sticks, r.Wins)
		won := false
		for seat := range x.Points {
			x.Points[seat] += gains[seat]
		}
		for _, w := range r.Wins {
			won = won || w.Who == e.Dealer
		}
		x.Sticks, stays = 0, won && pay.Stay%2 == 1
		if !won {
			counters = 0
		}
	case api.ResultDraw:
		ready := make([]bool, n)
		for _, seat := range r.Ready {
			ready[seat] = true
		}
		k := len(r.Ready)
		for seat := 0; seat < n && k > 0 && k < n; seat++ {
			x.Points[seat] += map[bool]int{true: pay.Pool / k, false: -pay.Pool / (n - k)}[ready[seat]]
		}
		stays = ready[e.Dealer] && pay.Stay/2%2 == 1
	case api.ResultAbort:
		stays = pay.Stay >= 4
	case api.ResultFoul:
		for _, who := range r.Fouls {
			for seat := range n {
				if seat != who {
					x.Points[seat], x.Points[who] = x.Points[seat]+pay.Foul, x.Points[who]-pay.Foul
				}
			}
		}
		stays, counters = true, e.Counters
	}
	x.Counters, x.Deals = min(counters, 100), e.Deals+1
	if !stays {
		x.Dealer = e.Dealer + 1
	}
	if x.Dealer == n {
		x.Dealer, x.Round = 0, e.Round+1
	}
	return x
}

// TestApply (P7.2, P7.7): the evening after a result is as the terms say; the changes are those of the points; the house stays.
func TestApply(t *testing.T) {
	what, stays, capped := map[int]int{}, 0, 0
	eachResult(t, 3, func(_ *dice, e api.Evening, r api.Result) {
		x, want := after(t, e, r), expected(e, r)
		l := changes(t, e, r)
		for seat := range l {
			l[seat] += e.Points[seat]
		}
		if !evening.Same(x, want) || !slices.Equal(l, x.Points) || !house.SameHouse(x.House, e.House) {
			t.Error(x, want)
		}
		what[r.What]++
		if x.Dealer == e.Dealer {
			stays++
		}
		if x.Counters == e.Counters && r.What != api.ResultFoul && x.Counters > 0 {
			capped++
		}
	})
	for r := api.ResultWin; r <= api.ResultFoul; r++ {
		if what[r] < 200 {
			t.Error(r, what[r])
		}
	}
	if stays < 200 || capped < 20 {
		t.Error(stays, capped)
	}
}

// TestPlay (P7.3): results are applied up to the first one that has an error.
func TestPlay(t *testing.T) {
	bust := four()
	bust.Pay.Start = 500
	for i, c := range []struct {
		h       api.House
		l       []api.Result
		many    int
		want    api.Errno
		points  []int
		dealer  int
		counted int
	}{
		{four(), nil, 0, api.OK, []int{25000, 25000, 25000, 25000}, 0, 0},
		{four(), []api.Result{win(row(1, 2, 480))}, 1, api.OK, []int{25000, 27000, 23000, 25000}, 1, 0},
		{four(), []api.Result{win(row(1, 2, 480)), foul(), abort()}, 1, api.ErrForm, []int{25000, 27000, 23000, 25000}, 1, 0},
		{four(), []api.Result{{}, abort()}, 0, api.ErrKind, []int{25000, 25000, 25000, 25000}, 0, 0},
		{four(), slices.Repeat([]api.Result{abort()}, 4), 4, api.OK, []int{25000, 25000, 25000, 25000}, 0, 4},
		{four(), slices.Repeat([]api.Result{abort()}, 6), 4, api.ErrState, []int{25000, 25000, 25000, 25000}, 0, 4},
		{bust, slices.Repeat([]api.Result{foul(3)}, 3), 1, api.ErrState, []int{1500, 1500, 1500, -2500}, 0, 0},
		{three(), []api.Result{laid(draw(2), 2), laid(draw(0, 1), 0), win(row(2, 1, 0)), win(row(0, 1, 9), row(2, 1, 9))}, 3, api.ErrOrder, []int{24000, 25000 - 400, 24000 + 400 + 2000}, 2, 0},
	} {
		e, n, f := evening.Play(c.h, c.l)
		if n != c.many || f != c.want || !slices.Equal(e.Points, c.points) || e.Dealer != c.dealer || e.Counters != c.counted || e.Deals != c.many || !house.SameHouse(e.House, c.h) || evening.Check(e) != api.OK {
			t.Error(i, e, n, f)
		}
	}
	for i, h := range wrong() {
		if e, n, f := evening.Play(h, []api.Result{abort()}); f != house.CheckHouse(h) || n != 0 || !evening.Same(e, api.Evening{}) {
			t.Error(i, e, n, f)
		}
	}
}

// TestLongPlay (P7.3): an evening ends after MaxDeals deals, however often the dealer stays.
func TestLongPlay(t *testing.T) {
	h := four()
	h.Pay.Stay = 7
	e, n, f := evening.Play(h, slices.Repeat([]api.Result{abort()}, 1001))
	if n != 1000 || f != api.ErrState || e.Deals != 1000 || e.Dealer != 0 || e.Counters != 100 || !evening.Over(e) {
		t.Error(n, f, e)
	}
	if e, n, f := evening.Play(h, slices.Repeat([]api.Result{abort()}, 999)); n != 999 || f != api.OK || evening.Over(e) {
		t.Error(n, f, e)
	}
}

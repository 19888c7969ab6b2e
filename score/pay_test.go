package score_test

import (
	"math"
	"slices"
	"testing"

	"sparrow/api"
	"sparrow/house"
	"sparrow/score"
)

// TestShares (P5.4): who is the dealer, or loses to the dealer, has two shares, if the house says so.
func TestShares(t *testing.T) {
	z, one := four(), four()
	one.Pay.Dealer = false
	for i, c := range []struct {
		h              api.House
		dealer, winner int
		want           []int
	}{
		{z, 0, 1, []int{2, 0, 1, 1}}, {z, 3, 1, []int{1, 0, 1, 2}}, {z, 0, 0, []int{0, 2, 2, 2}}, {z, 2, 2, []int{2, 2, 0, 2}}, {one, 0, 0, []int{0, 1, 1, 1}}, {one, 0, 3, []int{1, 1, 1, 0}}, {three(), 2, 0, []int{0, 1, 2}},
		{z, 4, 0, nil}, {z, 0, 4, nil}, {z, -1, 0, nil}, {z, 0, -1, nil}, {three(), 3, 0, nil}, {three(), 0, 3, nil},
	} {
		if l := score.Shares(c.h, c.dealer, c.winner); !slices.Equal(l, c.want) {
			t.Error(i, l)
		}
	}
	for i, h := range wrong() {
		if l := score.Shares(h, 0, 1); len(l) != 0 {
			t.Error(i, l)
		}
	}
}

// TestPayment (P5.4): the chapter's examples, and each mode with all that changes who pays.
func TestPayment(t *testing.T) {
	z, all, basic := four(), four(), four()
	all.Pay.Mode, basic.Pay.Mode = api.PayAll, api.PayBasic
	basic.Pay.Basic, basic.Scale.Round, basic.Pay.Dealer = 8, 1, false
	both := basic
	both.Pay.Dealer, both.Scale.Round, both.Pay.Counter = true, 10, 3
	for i, c := range []struct {
		h                                              api.House
		points, dealer, winner, from, counters, liable int
		want                                           []int
	}{
		{z, 480, 0, 1, 2, 1, -1, []int{0, 2300, -2300, 0}}, {z, 480, 0, 1, 1, 1, -1, []int{-1100, 2300, -600, -600}},
		{z, 480, 0, 1, 1, 1, 3, []int{0, 2300, 0, -2300}}, {z, 480, 0, 1, 2, 1, 3, []int{0, 2300, -1150, -1150}}, {z, 480, 0, 1, 2, 1, 2, []int{0, 2300, -2300, 0}},
		{z, 0, 0, 1, 2, 0, -1, []int{0, 0, 0, 0}}, {z, 1, 0, 1, 2, 0, -1, []int{0, 100, -100, 0}}, {z, 25, 0, 1, 2, 0, -1, []int{0, 100, -100, 0}}, {z, 26, 0, 1, 2, 0, -1, []int{0, 200, -200, 0}}, {z, 50, 0, 1, 1, 0, -1, []int{-100, 300, -100, -100}},
		{z, 1000000, 0, 0, 1, 100, -1, []int{6030000, -6030000, 0, 0}}, {z, 480, 1, 1, 3, 2, -1, []int{0, 3500, 0, -3500}}, {three(), 480, 1, 0, 1, 1, -1, []int{1700, -1700, 0}}, {three(), 480, 1, 0, 0, 1, -1, []int{1700, -1100, -600}},
		{all, 480, 0, 1, 2, 1, -1, []int{-1000, 2800, -1300, -500}}, {all, 480, 0, 1, 0, 1, -1, []int{-2300, 3300, -500, -500}}, {all, 480, 0, 1, 1, 1, -1, []int{-1100, 2300, -600, -600}}, {all, 480, 0, 1, 2, 1, 0, []int{-1650, 2800, -650, -500}}, {all, 430, 0, 1, 3, 0, 3, []int{-900, 2400, -500, -1000}},
		{basic, 24, 0, 1, 2, 0, -1, []int{-8, 48, -32, -8}}, {basic, 24, 0, 1, 1, 0, -1, []int{-32, 96, -32, -32}}, {basic, 25, 0, 1, 2, 0, 3, []int{-8, 49, -16, -25}}, {basic, 25, 0, 1, 1, 0, 3, []int{0, 99, 0, -99}},
		{both, 24, 0, 1, 0, 2, -1, []int{-76, 92, -8, -8}}, {both, 24, 0, 1, 2, 2, -1, []int{-8, 72, -56, -8}}, {both, 24, 0, 1, 1, 2, -1, []int{-64, 152, -44, -44}}, {both, 24, 0, 1, 2, 2, 0, []int{-36, 72, -28, -8}},
	} {
		l, e := score.Payment(c.h, c.points, c.dealer, c.winner, c.from, c.counters, c.liable)
		if !slices.Equal(l, c.want) || e != api.OK {
			t.Error(i, l, e)
		}
	}
}

// TestErrorsOfPayments (P5.4, R1, R3): the house's error; then whatever is out of its range.
func TestErrorsOfPayments(t *testing.T) {
	for i, c := range [][6]int{
		{-1, 0, 0, 0, 0, -1}, {1000001, 0, 0, 0, 0, -1}, {1, -1, 0, 0, 0, -1}, {1, 4, 0, 0, 0, -1}, {1, 0, -1, 0, 0, -1}, {1, 0, 4, 0, 0, -1}, {1, 0, 0, -1, 0, -1}, {1, 0, 0, 4, 0, -1}, {1, 0, 0, 0, -1, -1}, {1, 0, 0, 0, 101, -1}, {1, 0, 0, 1, 0, 0}, {1, 0, 2, 1, 0, 2}, {1, 0, 0, 0, 0, 4}, {1, 0, 0, 0, 0, -2},
		{math.MinInt, 0, 0, 0, 0, -1}, {math.MaxInt, 0, 0, 0, 0, -1}, {1, math.MinInt, 0, 0, 0, -1}, {1, 0, math.MaxInt, 0, 0, -1}, {1, 0, 0, math.MaxInt, 0, -1}, {1, 0, 0, 0, math.MaxInt, -1}, {1, 0, 0, 0, 0, math.MaxInt}, {1, 0, 0, 0, 0, math.MinInt},
	} {
		if l, e := score.Payment(four(), c[0], c[1], c[2], c[3], c[4], c[5]); e != api.ErrRange || len(l) != 0 {
			t.Error(i, l, e)
		}
	}
	for i, h := range wrong() {
		if l, e := score.Payment(h, -1, -1, -1, -1, -1, -2); e != house.CheckHouse(h) || len(l) != 0 {
			t.Error(i, l, e)
		}
	}
	for _, c := range [][6]int{{0, 0, 0, 0, 0, -1}, {1000000, 3, 3, 3, 100, 0}, {1, 0, 0, 0, 0, 3}} {
		if _, e := score.Payment(four(), c[0], c[1], c[2], c[3], c[4], c[5]); e != api.OK {
			t.Error(c, e)
		}
	}
}

// win is all that a payment depends on.
type win struct {
	h                                              api.House
	points, dealer, winner, from, counters, liable int
}

func (w win) payment(t *testing.T) []int {
	t.Helper()
	l, e := score.Payment(w.h, w.points, w.dealer, w.winner, w.from, w.counters, w.liable)
	if e != api.OK || len(l) != w.h.Set.Players {
		t.Fatal(w, l, e)
	}
	return l
}

// upTo is the first multiple that is not less.
func upTo(n, round int) int {
	for n%round != 0 {
		n++
	}
	return n
}

// paid is what each seat gets, by the chapter's table.
func (w win) paid() []int {
	n := w.h.Set.Players
	double := func(j int) bool { return w.h.Pay.Dealer && (j == w.dealer || w.winner == w.dealer) }
	pays, all := make([]int, n), 0
	for j := range n {
		if j == w.winner {
			continue
		}
		share := 1
		if double(j) {
			share = 2
		}
		all += share
		pays[j] = upTo(w.points*share, w.h.Scale.Round)
	}
	drawn := w.winner == w.from
	for j := range n {
		switch {
		case j == w.winner:
		case drawn && w.h.Pay.Mode == api.PayBasic:
			pays[j] += w.h.Pay.Basic
		case drawn:
		case w.h.Pay.Mode == api.PayAlone && j == w.from:
			pays[j] = upTo(w.points*all, w.h.Scale.Round)
		case w.h.Pay.Mode == api.PayAlone:
			pays[j] = 0
		case w.h.Pay.Mode == api.PayAll && j == w.from:
			pays[j] *= 2
		case w.h.Pay.Mode == api.PayBasic && j == w.from:
			pays[j] += w.h.Pay.Basic
		case w.h.Pay.Mode == api.PayBasic:
			pays[j] = w.h.Pay.Basic
		}
		switch {
		case drawn && j != w.winner:
			pays[j] += w.h.Pay.Counter * w.counters
		case !drawn && j == w.from:
			pays[j] += w.h.Pay.Counter * w.counters * (n - 1)
		}
	}
	gets := 0
	for _, x := range pays {
		gets += x
	}
	if w.liable >= 0 && drawn {
		pays = make([]int, n)
		pays[w.liable] = gets
	} else if w.liable >= 0 && w.liable != w.from {
		rest := pays[w.from] / 2
		pays[w.liable] += pays[w.from] - rest
		pays[w.from] = rest
	}
	for j := range pays {
		pays[j] = -pays[j]
	}
	pays[w.winner] = gets
	return pays
}

// wins are wins in houses of all sorts.
func wins(seed dice) []win {
	d := &seed
	var l []win
	for range 2000 {
		h := d.house(sets()[d.below(4)])
		n := h.Set.Players
		w := win{h: h, points: d.below([]int{10, 3000, 1000001}[d.below(3)]), dealer: d.below(n), winner: d.below(n), from: d.below(n), counters: d.below(4) * d.below(34), liable: -1}
		if d.luck() {
			w.liable = (w.winner + 1 + d.below(n-1)) % n
		}
		l = append(l, w)
	}
	return l
}

// TestPayments (P5.4, P5.11): payments are as the table says, sum up to 0, and nobody but the winner gets points.
func TestPayments(t *testing.T) {
	for _, w := range wins(21) {
		l := w.payment(t)
		if !slices.Equal(l, w.paid()) {
			t.Fatal(w, l, w.paid())
		}
		sum := 0
		for j, n := range l {
			sum += n
			if n > 0 && j != w.winner {
				t.Error(w, l)
			}
		}
		if sum != 0 {
			t.Error(w, l)
		}
	}
}

// TestLiablePayments (P5.12): a liable player changes nothing for the winner, nor for those who would not pay.
func TestLiablePayments(t *testing.T) {
	for _, w := range wins(22) {
		if w.liable < 0 {
			continue
		}
		free := w
		free.liable = -1
		without, with := free.payment(t), w.payment(t)
		for j := range with {
			if j != w.liable && with[j] != without[j] && (j == w.winner || without[j] == 0) {
				t.Error(w, with, without)
			}
		}
		if w.winner == w.from && -with[w.liable] != with[w.winner] || w.liable == w.from && !slices.Equal(with, without) {
			t.Error(w, with, without)
		}
	}
}

// TestTurnedPayments (P5.12, T6): if all seats are turned, so are the payments.
func TestTurnedPayments(t *testing.T) {
	for _, w := range wins(23) {
		n := w.h.Set.Players
		l := w.payment(t)
		next := w
		next.dealer, next.winner, next.from = (w.dealer+1)%n, (w.winner+1)%n, (w.from+1)%n
		if w.liable >= 0 {
			next.liable = (w.liable + 1) % n
		}
		turned := next.payment(t)
		for j := range l {
			if turned[(j+1)%n] != l[j] {
				t.Error(w, l, turned)
			}
		}
	}
}

func row(who, from, points, liable int) api.WinRow {
	return api.WinRow{Who: who, From: from, Points: points, Liable: liable}
}

// TestSettle (P5.5): the chapter's example; counters count once, sticks go to the first winner.
func TestSettle(t *testing.T) {
	z := four()
	for i, c := range []struct {
		dealer, counters, sticks int
		rows                     []api.WinRow
		want                     []int
	}{
		{0, 1, 2, []api.WinRow{row(1, 2, 480, -1), row(3, 2, 480, -1)}, []int{0, 4300, -4300, 2000}},
		{0, 1, 2, []api.WinRow{row(3, 2, 480, -1), row(1, 2, 480, -1)}, []int{0, 2000, -4300, 4300}},
		{0, 2, 0, []api.WinRow{row(1, 2, 480, -1), row(3, 2, 480, -1), row(0, 2, 480, -1)}, []int{2900, 2600, -7500, 2000}},
		{0, 0, 4000, []api.WinRow{row(0, 0, 0, -1)}, []int{4000000, 0, 0, 0}},
		{3, 100, 1, []api.WinRow{row(2, 2, 100, 1)}, []int{0, -30400, 31400, 0}},
		{0, 1, 1, []api.WinRow{row(1, 2, 480, -1), row(1, 2, 480, 3)}, []int{0, 5300, -3300, -1000}},
		{0, 0, 1, []api.WinRow{row(1, 1, 50, -1), row(2, 1, 50, -1)}, []int{-100, 1000 + 300 - 200, -100 + 200, -100}},
	} {
		l, e := score.Settle(z, c.dealer, c.counters, c.sticks, c.rows)
		if !slices.Equal(l, c.want) || e != api.OK {
			t.Error(i, l, e)
		}
		for k := range c.rows {
			c.rows[k].Value = -1 << k
		}
		if again, e := score.Settle(z, c.dealer, c.counters, c.sticks, c.rows); !slices.Equal(again, l) || e != api.OK {
			t.Error("the value of a row matters:", i, again, e)
		}
	}
}

// TestErrorsOfSettle (P5.5, R1, R3): of two errors the first one is returned.
func TestErrorsOfSettle(t *testing.T) {
	rows := []api.WinRow{row(1, 2, 480, -1)}
	for i, c := range []struct {
		dealer, counters, sticks int
		rows                     []api.WinRow
		want                     api.Errno
	}{
		{-1, 0, 0, nil, api.ErrRange}, {4, 0, 0, rows, api.ErrRange}, {0, -1, 0, nil, api.ErrRange}, {0, 101, 0, rows, api.ErrRange}, {0, 0, -1, nil, api.ErrRange}, {0, 0, 4001, rows, api.ErrRange}, {0, 0, math.MaxInt, rows, api.ErrRange},
		{0, 0, 0, nil, api.ErrMissing}, {0, 0, 0, []api.WinRow{}, api.ErrMissing}, {0, 0, 0, make([]api.WinRow, 4), api.ErrFull},
		{0, 0, 0, []api.WinRow{row(4, 2, 480, -1)}, api.ErrRange}, {0, 0, 0, []api.WinRow{row(1, -1, 480, -1)}, api.ErrRange}, {0, 0, 0, []api.WinRow{row(1, 2, -1, -1)}, api.ErrRange}, {0, 0, 0, []api.WinRow{row(1, 2, 480, 1)}, api.ErrRange}, {0, 0, 0, []api.WinRow{rows[0], rows[0], row(1, 2, 1000001, -1)}, api.ErrRange}, {0, 0, 0, []api.WinRow{{}}, api.ErrRange},
		{3, 100, 4000, []api.WinRow{rows[0], rows[0], rows[0]}, api.OK},
	} {
		if l, e := score.Settle(four(), c.dealer, c.counters, c.sticks, c.rows); e != c.want || e != api.OK && len(l) != 0 {
			t.Error(i, l, e)
		}
	}
	if _, e := score.Settle(three(), 0, 0, 0, make([]api.WinRow, 3)); e != api.ErrFull {
		t.Error(e)
	}
	for i, h := range wrong() {
		if l, e := score.Settle(h, -1, -1, -1, nil); e != house.CheckHouse(h) || len(l) != 0 {
			t.Error(i, l, e)
		}
	}
}

// TestSettlements (P5.5, P5.11): what is settled are the payments of all rows, and the sticks.
func TestSettlements(t *testing.T) {
	d, l := dice(24), wins(25)
	for _, w := range l {
		n := w.h.Set.Players
		sticks := d.below(5) * d.below(1001)
		want := make([]int, n)
		var rows []api.WinRow
		for i := range 1 + d.below(n-1) {
			each := w
			each.points, each.winner, each.from, each.liable = d.below(3000), d.below(n), d.below(n), -1
			if i > 0 {
				each.counters = 0
			}
			if d.below(3) == 0 {
				each.liable = (each.winner + 1 + d.below(n-1)) % n
			}
			for j, x := range each.paid() {
				want[j] += x
			}
			rows = append(rows, row(each.winner, each.from, each.points, each.liable))
		}
		want[rows[0].Who] += sticks * w.h.Pay.Stick
		got, e := score.Settle(w.h, w.dealer, w.counters, sticks, rows)
		if e != api.OK || !slices.Equal(got, want) {
			t.Fatal(w, rows, got, e, want)
		}
		sum := 0
		for _, x := range got {
			sum += x
		}
		if sum != sticks*w.h.Pay.Stick {
			t.Error(w, rows, got)
		}
	}
}

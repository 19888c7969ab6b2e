package evening_test

import (
	"slices"
	"testing"

	"sparrow/api"
	"sparrow/evening"
)

// TestConservation (P7.7, T5): evenings stay valid, points are neither lost nor made, and the totals of the standings add up to 0.
func TestConservation(t *testing.T) {
	eachResult(t, 11, func(_ *dice, e api.Evening, r api.Result) {
		x := after(t, e, r)
		pay := e.House.Pay
		total := 0
		for _, s := range evening.Standings(x) {
			total += s.Total
		}
		if evening.Check(x) != api.OK || sum(x.Points)+x.Sticks*pay.Stick != len(x.Points)*pay.Start || total != 0 {
			t.Error(x, total)
		}
	})
}

// TestSums (P7.8): changes add up to the sticks that are gone, less those that are new.
func TestSums(t *testing.T) {
	gone, added := 0, 0
	eachResult(t, 12, func(_ *dice, e api.Evening, r api.Result) {
		x := after(t, e, r)
		if sum(changes(t, e, r)) != e.House.Pay.Stick*(e.Sticks-x.Sticks) {
			t.Error(x)
		}
		if x.Sticks < e.Sticks {
			gone++
		} else if x.Sticks > e.Sticks {
			added++
		}
		if want := e.Sticks + len(r.Sticks); r.What == api.ResultWin && x.Sticks != 0 || r.What != api.ResultWin && x.Sticks != want {
			t.Error(x)
		}
	})
	if gone < 100 || added < 100 {
		t.Error(gone, added)
	}
}

// passing is a result by which the dealer does not stay.
func (d *dice) passing(e api.Evening) api.Result {
	for {
		r := d.result(len(e.Points))
		if x, f := evening.Apply(e, r); f == api.OK && x.Dealer != e.Dealer {
			return r
		}
	}
}

// TestRounds (P7.9): as long as nobody stays, each seat deals once a round, and the evening ends after all rounds.
func TestRounds(t *testing.T) {
	d := dice(13)
	for range 100 {
		h := d.house()
		h.Pay.Bust = false
		e, n := begin(t, h), h.Set.Players
		for i := range h.Pay.Rounds * n {
			if evening.Over(e) || e.Dealer != i%n || e.Round != i/n || evening.RoundWind(e) != i/n%n || evening.Wind(e, 0) != (n-e.Dealer)%n {
				t.Fatal(i, e)
			}
			e = after(t, e, d.passing(e))
		}
		if !evening.Over(e) || e.Dealer != 0 || e.Round != h.Pay.Rounds {
			t.Error(e)
		}
	}
}

// TestCounters (P7.10): after a win of others there are no counters, after a draw there is one more.
func TestCounters(t *testing.T) {
	others := 0
	eachResult(t, 14, func(_ *dice, e api.Evening, r api.Result) {
		x := after(t, e, r)
		more := min(e.Counters+1, api.MaxCounters)
		dealer := slices.ContainsFunc(r.Wins, func(w api.WinRow) bool { return w.Who == e.Dealer })
		want := more
		switch {
		case r.What == api.ResultWin && !dealer:
			want = 0
			others++
		case r.What == api.ResultFoul:
			want = e.Counters
		}
		if x.Counters != want {
			t.Error(x, want)
		}
	})
	if others < 100 {
		t.Error(others)
	}
}

// TestPlayInParts (P7.3, P7.11): playing a list is playing its first part, and applying the rest one by one.
func TestPlayInParts(t *testing.T) {
	d, stopped := dice(15), 0
	for range 400 {
		h := d.house()
		var l []api.Result
		for range d.below(12) {
			r := d.result(h.Set.Players)
			if d.once(20) {
				r = d.spoil(r)
			}
			l = append(l, r)
		}
		whole, n, f := evening.Play(h, l)
		cut := d.below(len(l) + 1)
		part, k, g := evening.Play(h, l[:cut])
		for k >= cut && k < len(l) && g == api.OK {
			var next api.Evening
			if next, g = evening.Apply(part, l[k]); g == api.OK {
				part, k = next, k+1
			}
		}
		if n != k || f != g || !evening.Same(whole, part) {
			t.Fatal(l, n, k, f, g)
		}
		if f != api.OK {
			stopped++
		}
	}
	if stopped < 50 {
		t.Error(stopped)
	}
}

// placeOf is the place of a seat.
func placeOf(e api.Evening, seat int) int {
	return slices.IndexFunc(evening.Standings(e), func(s api.Standing) bool { return s.Seat == seat })
}

// eachNeed calls check with what players need for all places, in many evenings.
func eachNeed(t *testing.T, seed dice, check func(e api.Evening, player, place int, l []api.Need)) {
	t.Helper()
	d := &seed
	for range 300 {
		e := d.evening()
		if evening.Over(e) {
			continue
		}
		for player := range e.Points {
			for place := range e.Points {
				l, f := evening.Needs(e, player, place)
				if f != api.OK || len(l) != len(e.Points) {
					t.Fatal(e, l, f)
				}
				check(e, player, place, l)
			}
		}
		if t.Failed() {
			t.Fatal(e)
		}
	}
}

// TestNeeded (P7.5, P7.12, T7): with the points that are needed the place is reached, with fewer it is not.
func TestNeeded(t *testing.T) {
	reached, never := 0, 0
	eachNeed(t, 16, func(e api.Evening, player, place int, l []api.Need) {
		for from, need := range l {
			most := need.Points
			if most < 0 {
				most = api.MaxPoints + 1
				never++
			}
			for _, points := range []int{0, most / 2, most - 1, most} {
				x, f := evening.Apply(e, win(row(player, from, points)))
				if f != api.OK {
					continue
				}
				reached++
				if (placeOf(x, player) <= place) != (points >= most) {
					t.Error(player, place, need, points)
				}
			}
		}
	})
	if reached < 5000 || never < 20 {
		t.Error(reached, never)
	}
}

// TestBetterPlaces (P7.12): a better place never needs fewer points; the place that a player has, and each worse one, needs none.
func TestBetterPlaces(t *testing.T) {
	above := func(points int) int {
		if points < 0 {
			return api.MaxPoints + 1
		}
		return points
	}
	eachNeed(t, 17, func(e api.Evening, player, place int, l []api.Need) {
		var better []api.Need
		if place > 0 {
			better, _ = evening.Needs(e, player, place-1)
		}
		for from, need := range l {
			if need.From != from || need.Points < -1 || need.Points > api.MaxPoints {
				t.Error(need)
			}
			if place > 0 && above(better[from].Points) < above(need.Points) {
				t.Error(player, place, need, better)
			}
			if place >= placeOf(e, player) && need.Points != 0 {
				t.Error(player, place, need)
			}
		}
	})
}

// TestSeveralWins (P7.13): several wins change the points as the wins one by one would, where counters and sticks go to the first one.
func TestSeveralWins(t *testing.T) {
	several := 0
	eachResult(t, 18, func(_ *dice, e api.Evening, r api.Result) {
		if len(r.Wins) < 2 {
			return
		}
		several++
		first := r
		first.Wins = r.Wins[:1]
		bare := evening.Copy(e)
		bare.Counters, bare.Sticks, bare.House.Pay.Bust = 0, 0, false
		bare.Points = slices.Repeat([]int{e.House.Pay.Start}, len(e.Points))
		x, f := evening.Changes(e, first)
		if f != api.OK {
			return
		}
		for _, w := range r.Wins[1:] {
			for seat, n := range changes(t, bare, win(w)) {
				x[seat] += n
			}
		}
		if l := changes(t, e, r); !slices.Equal(l, x) {
			t.Error(l, x)
		}
	})
	if several < 100 {
		t.Error(several)
	}
}

// turner turns seats by some, of n.
type turner struct{ n, by int }

func (x turner) seat(i int) int { return (i + x.by) % x.n }

// list turns what is listed by seats.
func (x turner) list(l []int) []int {
	out := make([]int, len(l))
	for i, v := range l {
		out[x.seat(i)] = v
	}
	return out
}

// seats turns an ascending list of seats.
func (x turner) seats(l []int) []int {
	var out []int
	for _, seat := range l {
		out = append(out, x.seat(seat))
	}
	return slices.Sorted(slices.Values(out))
}

func (x turner) result(r api.Result) api.Result {
	r.Ready, r.Fouls, r.Sticks, r.Wins = x.seats(r.Ready), x.seats(r.Fouls), x.seats(r.Sticks), slices.Clone(r.Wins)
	for i := range r.Wins {
		w := &r.Wins[i]
		w.Who, w.From = x.seat(w.Who), x.seat(w.From)
		if w.Liable >= 0 {
			w.Liable = x.seat(w.Liable)
		}
	}
	return r
}

// TestTurnedResults (T6): if all seats are turned with the dealer, so are the changes; who stays, counters and sticks are the same.
func TestTurnedResults(t *testing.T) {
	eachResult(t, 19, func(d *dice, e api.Evening, r api.Result) {
		x := turner{len(e.Points), 1 + d.below(len(e.Points)-1)}
		other := evening.Copy(e)
		other.Dealer, other.Points = x.seat(e.Dealer), x.list(e.Points)
		l, m := changes(t, e, r), changes(t, other, x.result(r))
		a, b := after(t, e, r), after(t, other, x.result(r))
		if !slices.Equal(x.list(l), m) || x.seat(a.Dealer) != b.Dealer || a.Counters != b.Counters || a.Sticks != b.Sticks || a.Deals != b.Deals {
			t.Error(l, m, a, b)
		}
		for seat := range e.Points {
			if evening.Wind(e, seat) != evening.Wind(other, x.seat(seat)) {
				t.Error(seat)
			}
		}
	})
}

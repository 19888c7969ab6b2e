package evening_test

import (
	"slices"
	"testing"

	"sparrow/api"
	"sparrow/evening"
	"sparrow/house"
)

// four is the house Z of the chapter's examples.
func four() api.House {
	return api.House{
		Set:   api.Set{Players: 4, Suits: []int{4}, Dragons: 1, Copies: 4, Melds: 1, Dead: 2, Reds: []int{1}},
		Forms: []api.Form{{What: api.FormMelds}}, Least: 1,
		Patterns: []api.Pattern{
			{Name: "a", Closed: 2, Open: 1},
			{Name: "b", Closed: 3, Open: 3, Excludes: []int{0}},
			{Name: "c", Closed: 2, Implies: []int{0}},
		},
		Scale: api.Scale{Base: 8, Double: true, Round: 100, Limits: []api.Limit{{From: 5, Points: 2000}, {From: 6, Points: 3000}}},
		Pay: api.Pay{
			Mode: api.PayAlone, Dealer: true, Counter: 100, Stick: 1000, Pool: 3000, Foul: 1000, Start: 25000, Rounds: 1,
			Stay: 3, Bust: true, Places: []int{20000, 10000, -10000, -20000},
		},
		Play: api.Play{Heads: 1, Time: 5, Foul: api.FoulDead},
	}
}

// three is the same house for three players, and two rounds.
func three() api.House {
	h := four()
	h.Set.Players, h.Set.Suits = 3, []int{3}
	h.Pay.Rounds, h.Pay.Places = 2, []int{15000, 0, -15000}
	return h
}

// wrong are houses that are not valid, each with another error.
func wrong() []api.House {
	l := []api.House{{}, four(), four(), four(), four(), four()}
	l[1].Forms = nil
	l[2].Patterns[1].Name = "a"
	l[3].Scale.Round = 0
	l[4].Pay.Mode = 4
	l[5].Pay.Places = []int{1}
	return l
}

func begin(t *testing.T, h api.House) api.Evening {
	t.Helper()
	e, f := evening.Begin(h)
	if f != api.OK {
		t.Fatal(f)
	}
	return e
}

// at is an evening of the house Z, with these points.
func at(points ...int) api.Evening { return api.Evening{House: four(), Points: points} }

// calm is such an evening in which nobody can go bust.
func calm(points ...int) api.Evening {
	e := at(points...)
	e.House.Pay.Bust = false
	return e
}

func row(who, from, points int) api.WinRow {
	return api.WinRow{Who: who, From: from, Points: points, Liable: -1}
}

func win(rows ...api.WinRow) api.Result { return api.Result{What: api.ResultWin, Wins: rows} }

func draw(ready ...int) api.Result { return api.Result{What: api.ResultDraw, Ready: ready} }

func abort() api.Result { return api.Result{What: api.ResultAbort} }

func foul(seats ...int) api.Result { return api.Result{What: api.ResultFoul, Fouls: seats} }

// laid is a result with sticks.
func laid(r api.Result, sticks ...int) api.Result {
	r.Sticks = sticks
	return r
}

// dice throws the same numbers in each run of the tests.
type dice uint64

func (d *dice) below(n int) int {
	*d = *d*2862933555777941757 + 3037000493
	return int(uint64(*d)>>20) % n
}

func (d *dice) luck() bool { return d.below(2) == 0 }

// once is true once in so many times.
func (d *dice) once(in int) bool { return d.below(in) == 0 }

// house is a house with any rules of payment.
func (d *dice) house() api.House {
	h := four()
	if d.luck() {
		h = three()
	}
	n := h.Set.Players
	h.Scale.Round = []int{1, 7, 10, 100}[d.below(4)]
	h.Pay = api.Pay{
		Mode: 1 + d.below(3), Dealer: d.luck(), Basic: d.below(20), Counter: d.below(400), Stick: d.below(2000), Pool: 6 * d.below(1000),
		Foul: d.below(2000), Start: d.below(60000), Rounds: 1 + d.below(4), Stay: d.below(8), Bust: d.luck(),
	}
	if d.luck() {
		h.Pay.Places = make([]int, n)
		for range 5 {
			p := d.below(30000)
			h.Pay.Places[d.below(n)] += p
			h.Pay.Places[d.below(n)] -= p
		}
	}
	return h
}

// evening is any evening that is valid: mostly one that is not over, and with points that are not far apart.
func (d *dice) evening() api.Evening {
	e := api.Evening{House: d.house()}
	pay, n := e.House.Pay, e.House.Set.Players
	e.Dealer, e.Round, e.Counters, e.Sticks, e.Deals = d.below(n), d.below(pay.Rounds), d.below(5), d.below(4), d.below(50)
	if d.once(10) {
		e.Round, e.Deals = d.below(pay.Rounds+1), api.MaxDeals-d.below(2)
	}
	if d.once(10) {
		e.Counters, e.Sticks = api.MaxCounters-d.below(2), api.MaxSticks-d.below(4)
	}
	e.Points = slices.Repeat([]int{pay.Start}, n)
	e.Points[d.below(n)] -= e.Sticks * pay.Stick
	for range 6 {
		p := d.below(4000)
		if d.once(20) {
			p = api.MaxTotal/8 - d.below(2)
		}
		e.Points[d.below(n)] += p
		e.Points[d.below(n)] -= p
	}
	return e
}

// seats are some of n seats, ascending.
func (d *dice) seats(n int) []int {
	var l []int
	for seat := range n {
		if d.luck() {
			l = append(l, seat)
		}
	}
	return l
}

// result is any result that an evening of n players may have.
func (d *dice) result(n int) api.Result {
	r := api.Result{What: 1 + d.below(4)}
	switch r.What {
	case api.ResultWin:
		r.Wins = d.wins(n)
	case api.ResultDraw:
		r.Ready = d.seats(n)
	case api.ResultFoul:
		for len(r.Fouls) == 0 {
			r.Fouls = d.seats(n)
		}
		return r
	}
	r.Sticks = d.seats(n)
	return r
}

// wins are wins from somebody, in turn; or one that is drawn.
func (d *dice) wins(n int) []api.WinRow {
	from := d.below(n)
	if d.once(3) {
		return []api.WinRow{d.row(n, from, from)}
	}
	var l []api.WinRow
	for len(l) == 0 {
		for behind := 1; behind < n; behind++ {
			if d.luck() {
				l = append(l, d.row(n, (from+behind)%n, from))
			}
		}
	}
	return l
}

func (d *dice) row(n, who, from int) api.WinRow {
	w := row(who, from, d.below([]int{10, 3000, api.MaxPoints + 1}[d.below(3)]))
	w.Value = d.below(100)
	if d.once(4) {
		w.Liable = (who + 1 + d.below(n-1)) % n
	}
	return w
}

// eachResult calls check with many evenings that are not over, and a result that each of them may have.
func eachResult(t *testing.T, seed dice, check func(d *dice, e api.Evening, r api.Result)) {
	t.Helper()
	d, checked := &seed, 0
	for range 3000 {
		e := d.evening()
		r := d.result(len(e.Points))
		if evening.CheckResult(e, r) != api.OK {
			continue
		}
		checked++
		if check(d, e, r); t.Failed() {
			t.Fatal(e.House.Pay, e, r)
		}
	}
	if checked < 1500 {
		t.Fatal(checked)
	}
}

// after is the evening after a result that it may have.
func after(t *testing.T, e api.Evening, l ...api.Result) api.Evening {
	t.Helper()
	for _, r := range l {
		next, f := evening.Apply(e, r)
		if f != api.OK {
			t.Fatal(f, e, r)
		}
		e = next
	}
	return e
}

// changes are those by a result that the evening may have.
func changes(t *testing.T, e api.Evening, r api.Result) []int {
	t.Helper()
	l, f := evening.Changes(e, r)
	if f != api.OK {
		t.Fatal(f, e, r)
	}
	return l
}

func sum(l []int) int {
	n := 0
	for _, x := range l {
		n += x
	}
	return n
}

// TestEveningsAreValid: what the tests go through is valid, and of all sorts.
func TestEveningsAreValid(t *testing.T) {
	for i, h := range []api.House{four(), three()} {
		if e := house.CheckHouse(h); e != api.OK {
			t.Error(i, e)
		}
	}
	for i, h := range wrong() {
		if house.CheckHouse(h) == api.OK {
			t.Error(i)
		}
	}
	d, over, below := dice(1), 0, 0
	for range 1000 {
		e := d.evening()
		if f := evening.Check(e); f != api.OK {
			t.Fatal(f, e)
		}
		if evening.Over(e) {
			over++
		}
		if slices.Min(e.Points) < 0 {
			below++
		}
	}
	if over < 50 || over > 500 || below < 50 {
		t.Error(over, below)
	}
}

func noPanic(t *testing.T, name string, call func()) {
	t.Helper()
	defer func() {
		if p := recover(); p != nil {
			t.Errorf("%s panics: %v", name, p)
		}
	}()
	call()
}

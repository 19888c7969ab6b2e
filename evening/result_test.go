package evening_test

import (
	"math"
	"slices"
	"testing"

	"sparrow/api"
	"sparrow/evening"
)

// judged checks what CheckResult, Changes and Apply say of a result.
func judged(t *testing.T, name int, e api.Evening, r api.Result, want api.Errno) {
	t.Helper()
	l, f := evening.Changes(e, r)
	x, g := evening.Apply(e, r)
	if h := evening.CheckResult(e, r); f != want || g != want || h != want {
		t.Error(name, f, g, h)
	}
	if want != api.OK && (len(l) > 0 || !evening.Same(x, api.Evening{})) {
		t.Error(name, l, x)
	}
}

// TestCheckResult (P7.2, R1): the errors of a result, of two the first one; the chapter's examples.
func TestCheckResult(t *testing.T) {
	with := func(what int, r api.Result) api.Result {
		r.What = what
		return r
	}
	rows := []api.WinRow{row(1, 2, 480)}
	for i, c := range []struct {
		r    api.Result
		want api.Errno
	}{
		{api.Result{What: 5}, api.ErrKind}, {api.Result{}, api.ErrKind}, {api.Result{What: -1, Ready: []int{9}}, api.ErrKind}, {api.Result{What: 5, Ready: []int{3, 1}}, api.ErrKind},
		{draw(0, 1, 2, 3), api.OK}, {draw(), api.OK}, {draw(-1), api.ErrRange}, {draw(4), api.ErrRange}, {draw(3, 1), api.ErrOrder}, {draw(1, 1), api.ErrOrder}, {draw(3, 1, 9), api.ErrOrder}, {draw(3, 9, 1), api.ErrRange}, {draw(0, 1, 2, 3, 3), api.ErrOrder},
		{laid(draw(1, 0), 9), api.ErrOrder}, {laid(draw(9), 1, 0), api.ErrRange}, {laid(draw(1), 1, 0), api.ErrOrder}, {laid(draw(1), 4), api.ErrRange}, {laid(draw(1), -1), api.ErrRange}, {laid(draw(1), 0, 1, 2, 3), api.OK},
		{api.Result{What: api.ResultDraw, Fouls: []int{4}, Sticks: []int{2, 1}}, api.ErrRange}, {api.Result{What: api.ResultDraw, Fouls: []int{2, 1}, Sticks: []int{4}}, api.ErrOrder}, {api.Result{What: api.ResultDraw, Fouls: []int{1}, Sticks: []int{4}}, api.ErrRange},
		{api.Result{What: api.ResultDraw, Fouls: []int{1}}, api.ErrForm}, {api.Result{What: api.ResultDraw, Wins: rows}, api.ErrForm},
		{abort(), api.OK}, {laid(abort(), 0, 3), api.OK}, {with(api.ResultAbort, draw(1)), api.ErrForm}, {with(api.ResultAbort, foul(1)), api.ErrForm}, {with(api.ResultAbort, win(rows...)), api.ErrForm},
		{foul(), api.ErrForm}, {foul(1), api.OK}, {foul(0, 1, 2, 3), api.OK}, {foul(2, 0), api.ErrOrder}, {foul(4), api.ErrRange}, {laid(foul(1), 2), api.ErrForm}, {api.Result{What: api.ResultFoul, Fouls: []int{1}, Ready: []int{2}}, api.ErrForm}, {api.Result{What: api.ResultFoul, Fouls: []int{1}, Wins: rows}, api.ErrForm},
		{win(), api.ErrMissing}, {with(api.ResultWin, draw(1)), api.ErrForm}, {with(api.ResultWin, foul(1)), api.ErrForm}, {api.Result{What: api.ResultWin, Ready: []int{1}, Wins: rows}, api.ErrForm}, {api.Result{What: api.ResultWin, Fouls: []int{1}, Wins: rows}, api.ErrForm},
		{win(rows...), api.OK}, {laid(win(rows...), 0, 1, 2, 3), api.OK}, {win(row(2, 2, 0)), api.OK}, {win(row(1, 2, 0), row(1, 2, 0), row(1, 2, 0), row(9, 2, 0)), api.ErrFull},
	} {
		judged(t, i, begin(t, four()), c.r, c.want)
	}
}

// TestRulesOfWins (P7.2, R1): the errors of rows, of two the first one.
func TestRulesOfWins(t *testing.T) {
	worth := func(value, points, liable int) api.WinRow {
		return api.WinRow{Who: 1, From: 2, Value: value, Points: points, Liable: liable}
	}
	for i, c := range []struct {
		rows []api.WinRow
		want api.Errno
	}{
		{[]api.WinRow{row(-1, 2, 480)}, api.ErrRange}, {[]api.WinRow{row(4, 2, 480)}, api.ErrRange}, {[]api.WinRow{row(1, -1, 480)}, api.ErrRange}, {[]api.WinRow{row(1, 4, 480)}, api.ErrRange},
		{[]api.WinRow{worth(0, -1, -1)}, api.ErrRange}, {[]api.WinRow{worth(0, 1000000, -1)}, api.OK}, {[]api.WinRow{worth(0, 1000001, -1)}, api.ErrRange}, {[]api.WinRow{worth(-1, 0, -1)}, api.ErrRange}, {[]api.WinRow{worth(1<<30, 0, -1)}, api.OK}, {[]api.WinRow{worth(1<<30+1, 0, -1)}, api.ErrRange},
		{[]api.WinRow{worth(0, 0, -2)}, api.ErrRange}, {[]api.WinRow{worth(0, 0, 0)}, api.OK}, {[]api.WinRow{worth(0, 0, 1)}, api.ErrRange}, {[]api.WinRow{worth(0, 0, 2)}, api.OK}, {[]api.WinRow{worth(0, 0, 3)}, api.OK}, {[]api.WinRow{worth(0, 0, 4)}, api.ErrRange},
		{[]api.WinRow{row(3, 2, 0), row(0, 2, 0)}, api.OK}, {[]api.WinRow{row(3, 2, 0), row(1, 2, 0)}, api.OK}, {[]api.WinRow{row(0, 2, 0), row(1, 2, 0)}, api.OK}, {[]api.WinRow{row(3, 2, 0), row(0, 2, 0), row(1, 2, 0)}, api.OK}, {[]api.WinRow{row(1, 0, 0), row(2, 0, 0), row(3, 0, 0)}, api.OK},
		{[]api.WinRow{row(1, 2, 0), row(0, 2, 0)}, api.ErrOrder}, {[]api.WinRow{row(3, 2, 0), row(3, 2, 0)}, api.ErrOrder}, {[]api.WinRow{row(3, 2, 0), row(1, 2, 0), row(0, 2, 0)}, api.ErrOrder}, {[]api.WinRow{row(0, 2, 0), row(3, 2, 0), row(1, 2, 0)}, api.ErrOrder}, {[]api.WinRow{row(1, 2, 0), row(3, 2, 0)}, api.ErrOrder},
		{[]api.WinRow{row(3, 2, 0), row(0, 1, 0)}, api.ErrClash}, {[]api.WinRow{row(3, 2, 0), row(0, 2, 0), row(1, 3, 0)}, api.ErrClash}, {[]api.WinRow{row(2, 2, 0), row(3, 2, 0)}, api.ErrClash}, {[]api.WinRow{row(3, 2, 0), row(2, 2, 0)}, api.ErrClash}, {[]api.WinRow{row(1, 2, 0), row(0, 3, 0)}, api.ErrClash}, {[]api.WinRow{row(1, 2, 0), row(0, 2, 0), row(2, 2, 0)}, api.ErrClash},
		{[]api.WinRow{row(1, 1, 0), row(2, 2, 0)}, api.ErrClash}, {[]api.WinRow{row(3, 2, 0), row(0, 1, 0), row(1, 2, -1)}, api.ErrRange}, {[]api.WinRow{row(1, 2, 0), row(0, 2, 0), row(9, 2, 0)}, api.ErrRange},
		{[]api.WinRow{row(3, 2, 0), {Who: 0, From: 2, Liable: 0}}, api.ErrRange}, {[]api.WinRow{{}}, api.ErrRange},
	} {
		judged(t, i, begin(t, four()), win(c.rows...), c.want)
	}
	if f := evening.CheckResult(begin(t, three()), win(row(1, 0, 0), row(2, 0, 0), row(0, 0, 0))); f != api.ErrFull {
		t.Error(f)
	}
	judged(t, -1, begin(t, three()), win(row(1, 0, 0), row(2, 0, 0)), api.OK)
	judged(t, -2, begin(t, three()), draw(3), api.ErrRange)
}

// TestFull (P7.2): with a result there are not too many sticks, nor too many or too few points.
func TestFull(t *testing.T) {
	full := calm(25000-4000000, 25000, 25000, 25000)
	full.Sticks = 4000
	near := calm(25000-3998000, 25000, 25000, 25000)
	near.Sticks = 3998
	most := api.MaxTotal
	top, low := calm(most, 100000-most, 0, 0), calm(-most, most, 99000, 1000)
	bottom := calm(-most, most, 99999, 0)
	bottom.Sticks, bottom.House.Pay.Stick = 1, 1
	for i, c := range []struct {
		e    api.Evening
		r    api.Result
		want api.Errno
	}{
		{full, draw(), api.OK}, {full, abort(), api.OK}, {full, win(row(1, 2, 0)), api.OK}, {full, foul(1), api.OK}, {full, laid(abort(), 1), api.ErrFull}, {full, laid(draw(1), 1), api.ErrFull}, {full, laid(win(row(1, 1, 0)), 1), api.ErrFull},
		{near, laid(abort(), 1, 2), api.OK}, {near, laid(abort(), 1, 2, 3), api.ErrFull}, {full, laid(abort(), 2, 1), api.ErrOrder},
		{top, win(row(0, 2, 0)), api.OK}, {top, win(row(0, 2, 1)), api.ErrFull}, {top, win(row(2, 3, 1)), api.OK}, {top, draw(0), api.ErrFull}, {top, draw(2), api.OK}, {top, foul(1), api.ErrFull}, {top, foul(0), api.OK}, {top, laid(abort(), 0), api.OK},
		{low, win(row(2, 0, 1)), api.ErrFull}, {low, win(row(0, 2, 1)), api.OK}, {low, draw(3), api.ErrFull}, {low, laid(abort(), 0), api.ErrFull}, {low, laid(abort(), 2), api.OK}, {low, foul(0), api.ErrFull},
		{bottom, laid(win(row(0, 2, 0)), 0), api.OK}, {bottom, laid(win(row(2, 3, 0)), 0), api.ErrFull}, {top, laid(win(row(0, 0, 0)), 0), api.OK}, {top, laid(win(row(0, 0, 0)), 1), api.ErrFull},
	} {
		if f := evening.Check(c.e); f != api.OK {
			t.Fatal(i, f)
		}
		judged(t, i, c.e, c.r, c.want)
	}
}

// TestResultsOfOver (P7.2, R1): an evening that is over has no more results.
func TestResultsOfOver(t *testing.T) {
	for i, change := range []func(e *api.Evening){
		func(e *api.Evening) { e.Round = 1 }, func(e *api.Evening) { e.Deals = 1000 }, func(e *api.Evening) { e.Points = []int{-1, 50001, 25000, 25000} },
	} {
		e := begin(t, four())
		change(&e)
		for _, r := range []api.Result{{}, abort(), win(), draw(9), win(row(1, 2, 480))} {
			judged(t, i, e, r, api.ErrState)
		}
	}
}

// rule is something that a result needs, and what it is otherwise.
type rule struct {
	ok bool
	e  api.Errno
}

// firstOf returns the error of the first rule that is broken.
func firstOf(rules []rule) api.Errno {
	for _, r := range rules {
		if !r.ok {
			return r.e
		}
	}
	return api.OK
}

// rulesOf lists what the chapter says of a result, but for points and sticks after it.
func rulesOf(n int, r api.Result) []rule {
	seat := func(i int) bool { return i >= 0 && i < n }
	rules := []rule{{r.What >= 1 && r.What <= 4, api.ErrKind}}
	for _, l := range [][]int{r.Ready, r.Fouls, r.Sticks} {
		for i := range l {
			rules = append(rules, rule{seat(l[i]), api.ErrRange}, rule{i == 0 || l[i] > l[i-1], api.ErrOrder})
		}
	}
	wins, ready, fouls, sticks := len(r.Wins) > 0, len(r.Ready) > 0, len(r.Fouls) > 0, len(r.Sticks) > 0
	switch r.What {
	case api.ResultDraw:
		return append(rules, rule{!wins && !fouls, api.ErrForm})
	case api.ResultAbort:
		return append(rules, rule{!wins && !ready && !fouls, api.ErrForm})
	case api.ResultFoul:
		return append(rules, rule{!wins && !ready && !sticks && fouls, api.ErrForm})
	}
	rules = append(rules, rule{!ready && !fouls, api.ErrForm}, rule{wins, api.ErrMissing}, rule{len(r.Wins) < n, api.ErrFull})
	for _, w := range r.Wins {
		rules = append(rules, rule{seat(w.Who) && seat(w.From) && w.Value >= 0 && w.Value <= 1<<30 && w.Points >= 0 && w.Points <= 1000000, api.ErrRange})
		rules = append(rules, rule{w.Liable == -1 || seat(w.Liable) && w.Liable != w.Who, api.ErrRange})
	}
	for i := 0; i < len(r.Wins) && len(r.Wins) > 1; i++ {
		rules = append(rules, rule{r.Wins[i].From == r.Wins[0].From && r.Wins[i].Who != r.Wins[0].From, api.ErrClash})
	}
	for i := 1; i < len(r.Wins); i++ {
		a, b, from := r.Wins[i-1].Who, r.Wins[i].Who, r.Wins[0].From
		rules = append(rules, rule{(a-from+n)%n < (b-from+n)%n, api.ErrOrder})
	}
	return rules
}

// spoil changes something of a result, so that it is mostly none any more.
func (d *dice) spoil(r api.Result) api.Result {
	number := func() int { return []int{-2, -1, 0, 1, 2, 3, 4, 1 << 31, math.MinInt, math.MaxInt}[d.below(10)] }
	r.Wins = slices.Clone(r.Wins)
	switch d.below(8) {
	case 0:
		r.What = 1 + d.below(6)
	case 1:
		r.Ready = append(slices.Clone(r.Ready), number())
	case 2:
		r.Fouls = append(slices.Clone(r.Fouls), number())
	case 3:
		r.Sticks = append(slices.Clone(r.Sticks), number())
	case 4:
		r.Wins = append(r.Wins, d.row(3, d.below(3), d.below(3)))
	default:
		if len(r.Wins) > 0 {
			w := &r.Wins[d.below(len(r.Wins))]
			*[]*int{&w.Who, &w.From, &w.Value, &w.Points, &w.Liable}[d.below(5)] = number()
		}
	}
	return r
}

// TestFirstErrors (P7.2, R1): of all errors of a result the first one is returned.
func TestFirstErrors(t *testing.T) {
	d, seen := dice(2), map[api.Errno]int{}
	for i := range 6000 {
		e := begin(t, d.house())
		e.House.Pay.Bust = false
		r := d.result(len(e.Points))
		for range d.below(4) {
			r = d.spoil(r)
		}
		want := firstOf(rulesOf(len(e.Points), r))
		if seen[want]++; evening.CheckResult(e, r) != want {
			t.Fatal(r, evening.CheckResult(e, r), want)
		}
		if i%10 == 0 {
			judged(t, i, e, r, want)
		}
	}
	for _, e := range []api.Errno{api.OK, api.ErrKind, api.ErrRange, api.ErrOrder, api.ErrForm, api.ErrMissing, api.ErrFull, api.ErrClash} {
		if seen[e] < 20 {
			t.Error(e, seen[e])
		}
	}
}

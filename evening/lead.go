package evening

import (
	"slices"

	"sparrow/api"
	"sparrow/score"
)

// Bits of a pay's Stay: after what the dealer stays.
const (
	afterWin = 1 << iota
	afterDraw
	afterAbort
)

// leader leads an evening from one deal to the next; the fields of the evening are promoted.
type leader struct{ api.Evening }

func (l leader) seats() int { return l.House.Set.Players }

func (l leader) isSeat(n int) bool { return between(n, 0, l.seats()-1) }

// behind returns how many seats one is behind another, going round.
func (l leader) behind(seat, other int) int { return (other - seat + l.seats()) % l.seats() }

// bounded reports whether no seat has too many points, nor too few.
func (l leader) bounded() bool {
	return !slices.ContainsFunc(l.Points, func(n int) bool { return !between(n, -api.MaxTotal, api.MaxTotal) })
}

// ranged reports whether all numbers but the points are in their ranges.
func (l leader) ranged() bool {
	return l.isSeat(l.Dealer) && between(l.Round, 0, l.House.Pay.Rounds) && between(l.Counters, 0, api.MaxCounters) &&
		between(l.Sticks, 0, api.MaxSticks) && between(l.Deals, 0, api.MaxDeals)
}

// balanced reports whether the points of seats and sticks are those with which the evening began.
func (l leader) balanced() bool {
	sum := l.stickPoints()
	for _, n := range l.Points {
		sum += n
	}
	return sum == l.seats()*l.House.Pay.Start
}

// stickPoints returns the points of all sticks on the table.
func (l leader) stickPoints() int { return l.Sticks * l.House.Pay.Stick }

// over reports whether an evening, that is valid, is over.
func (l leader) over() bool {
	return l.Round == l.House.Pay.Rounds || l.Deals == api.MaxDeals || l.House.Pay.Bust && slices.Min(l.Points) < 0
}

// after returns the evening after a result, for one that is valid, and shares its house.
func after(e api.Evening, r api.Result) (api.Evening, api.Errno) {
	l := leader{e}
	if l.over() {
		return api.Evening{}, api.ErrState
	}
	if f := l.judge(r); f != api.OK {
		return api.Evening{}, f
	}
	if l.Sticks+len(r.Sticks) > api.MaxSticks {
		return api.Evening{}, api.ErrFull
	}
	l.Points = slices.Clone(l.Points)
	l.lay(r.Sticks)
	l.goOn(l.settle(r))
	if !l.bounded() {
		return api.Evening{}, api.ErrFull
	}
	return l.Evening, api.OK
}

// lay lets seats lay their sticks on the table.
func (l *leader) lay(seats []int) {
	for _, seat := range seats {
		l.Points[seat] -= l.House.Pay.Stick
		l.Sticks++
	}
}

// settle pays for a result, with the sticks on the table, and counts. It reports whether the dealer stays.
func (l *leader) settle(r api.Result) bool {
	ways := map[int]func(l *leader, r api.Result) bool{
		api.ResultWin:   (*leader).win,
		api.ResultDraw:  (*leader).draw,
		api.ResultAbort: (*leader).abort,
		api.ResultFoul:  (*leader).foul,
	}
	return ways[r.What](l, r)
}

func (l *leader) win(r api.Result) bool {
	l.pay(r.Wins)
	if !slices.ContainsFunc(r.Wins, func(row api.WinRow) bool { return row.Who == l.Dealer }) {
		l.Counters = 0
		return false
	}
	l.count()
	return l.stays(afterWin)
}

// pay pays for wins, and clears the table of its sticks.
func (l *leader) pay(rows []api.WinRow) {
	// The house and the rows are valid here, so that there is no error.
	gains, _ := score.Settle(l.House, l.Dealer, l.Counters, l.Sticks, rows)
	for seat, n := range gains {
		l.Points[seat] += n
	}
	l.Sticks = 0
}

func (l *leader) draw(r api.Result) bool {
	l.share(r.Ready)
	l.count()
	return slices.Contains(r.Ready, l.Dealer) && l.stays(afterDraw)
}

// share lets those who are not ready pay the pool to those who are; a pool is divisible by all numbers of seats that may be either.
func (l *leader) share(ready []int) {
	many, others := len(ready), l.seats()-len(ready)
	if many == 0 || others == 0 {
		return
	}
	for seat := range l.Points {
		if slices.Contains(ready, seat) {
			l.Points[seat] += l.House.Pay.Pool / many
		} else {
			l.Points[seat] -= l.House.Pay.Pool / others
		}
	}
}

func (l *leader) abort(api.Result) bool {
	l.count()
	return l.stays(afterAbort)
}

func (l *leader) foul(r api.Result) bool {
	for _, who := range r.Fouls {
		for seat := range l.Points {
			l.Points[seat] += l.House.Pay.Foul
		}
		l.Points[who] -= l.House.Pay.Foul * l.seats()
	}
	return true
}

func (l *leader) count() { l.Counters = min(l.Counters+1, api.MaxCounters) }

// stays reports whether a dealer who has what it takes stays after such a result.
func (l *leader) stays(bit int) bool { return l.House.Pay.Stay&bit != 0 }

// goOn leads to the next deal.
func (l *leader) goOn(stays bool) {
	l.Deals++
	if stays {
		return
	}
	l.Dealer = (l.Dealer + 1) % l.seats()
	if l.Dealer == 0 {
		l.Round++
	}
}

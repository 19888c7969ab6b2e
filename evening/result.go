package evening

import (
	"slices"

	"sparrow/api"
)

// maxValue is the greatest value of a win.
const maxValue = 1 << 30

// judge returns the first error of a result, but for those of the evening after it; or OK.
func (l leader) judge(r api.Result) api.Errno {
	checks := map[int]func(l leader, r api.Result) api.Errno{
		api.ResultWin:   leader.checkWin,
		api.ResultDraw:  leader.checkDraw,
		api.ResultAbort: leader.checkAbort,
		api.ResultFoul:  leader.checkFoul,
	}
	check, ok := checks[r.What]
	if !ok {
		return api.ErrKind
	}
	for _, seats := range [][]int{r.Ready, r.Fouls, r.Sticks} {
		if e := l.checkSeats(seats); e != api.OK {
			return e
		}
	}
	return check(l, r)
}

// checkSeats checks an ascending list of seats.
func (l leader) checkSeats(seats []int) api.Errno {
	last := none
	for _, seat := range seats {
		if !l.isSeat(seat) {
			return api.ErrRange
		}
		if seat <= last {
			return api.ErrOrder
		}
		last = seat
	}
	return api.OK
}

// formed is the error of a result that lacks something, or has too much.
func formed(ok bool) api.Errno {
	if !ok {
		return api.ErrForm
	}
	return api.OK
}

func (l leader) checkDraw(r api.Result) api.Errno {
	return formed(len(r.Wins) == 0 && len(r.Fouls) == 0)
}

func (l leader) checkAbort(r api.Result) api.Errno {
	return formed(len(r.Wins) == 0 && len(r.Ready) == 0 && len(r.Fouls) == 0)
}

func (l leader) checkFoul(r api.Result) api.Errno {
	return formed(len(r.Wins) == 0 && len(r.Ready) == 0 && len(r.Sticks) == 0 && len(r.Fouls) > 0)
}

func (l leader) checkWin(r api.Result) api.Errno {
	switch rows := r.Wins; {
	case len(r.Ready) > 0 || len(r.Fouls) > 0:
		return api.ErrForm
	case len(rows) == 0:
		return api.ErrMissing
	case len(rows) >= l.seats():
		return api.ErrFull
	case slices.ContainsFunc(rows, func(row api.WinRow) bool { return !l.isRow(row) }):
		return api.ErrRange
	case len(rows) > 1 && !fromOne(rows):
		return api.ErrClash
	case !l.inTurn(rows):
		return api.ErrOrder
	}
	return api.OK
}

// isRow reports whether all that a row says is in its range.
func (l leader) isRow(row api.WinRow) bool {
	return l.isSeat(row.Who) && l.isSeat(row.From) && between(row.Value, 0, maxValue) && between(row.Points, 0, api.MaxPoints) &&
		(row.Liable == none || l.isSeat(row.Liable) && row.Liable != row.Who)
}

// fromOne reports whether all won from the same one, who did not win.
func fromOne(rows []api.WinRow) bool {
	from := rows[0].From
	return !slices.ContainsFunc(rows, func(row api.WinRow) bool { return row.From != from || row.Who == from })
}

// inTurn reports whether each winner is farther behind the one from whom the tile came than the one before.
func (l leader) inTurn(rows []api.WinRow) bool {
	last := none
	for _, row := range rows {
		behind := l.behind(row.From, row.Who)
		if behind <= last {
			return false
		}
		last = behind
	}
	return true
}

package evening

import (
	"cmp"
	"slices"
	"sort"

	"sparrow/api"
)

// Standings returns the standings of a valid evening, by places.
func Standings(e api.Evening) []api.Standing {
	if Check(e) != api.OK {
		return nil
	}
	return leader{e}.standings()
}

// Final returns the standings of an evening that is over.
func Final(e api.Evening) ([]api.Standing, api.Errno) {
	if f := Check(e); f != api.OK {
		return nil, f
	}
	l := leader{e}
	if !l.over() {
		return nil, api.ErrState
	}
	return l.standings(), api.OK
}

// standings returns the standings; the first one has the points of the sticks, too.
func (l leader) standings() []api.Standing {
	standings := l.places()
	standings[0].Points += l.stickPoints()
	for i := range standings {
		s := &standings[i]
		s.Total = s.Points - l.House.Pay.Start
		if places := l.House.Pay.Places; len(places) > 0 {
			s.Total += places[i]
		}
	}
	return standings
}

// places returns the seats by their points, without totals.
func (l leader) places() []api.Standing {
	places := make([]api.Standing, len(l.Points))
	for seat, n := range l.Points {
		places[seat] = api.Standing{Seat: seat, Points: n}
	}
	slices.SortFunc(places, func(a, b api.Standing) int {
		return cmp.Or(cmp.Compare(b.Points, a.Points), cmp.Compare(a.Seat, b.Seat))
	})
	for i := range places {
		places[i].Place = i
	}
	return places
}

// Needs returns how many points a player needs to win from each seat, so that its place is at most the one that is wanted.
func Needs(e api.Evening, player, place int) ([]api.Need, api.Errno) {
	if f := Check(e); f != api.OK {
		return nil, f
	}
	l := leader{e}
	if l.over() {
		return nil, api.ErrState
	}
	if !l.isSeat(player) || !between(place, 0, l.seats()-1) {
		return nil, api.ErrRange
	}
	needs := make([]api.Need, l.seats())
	for from := range needs {
		needs[from] = api.Need{From: from, Points: l.need(player, place, from)}
	}
	return needs, api.OK
}

// need returns the least number of points that is enough. It can be searched for, since more points never lead to a worse place.
func (l leader) need(player, place, from int) int {
	points := sort.Search(api.MaxPoints+1, func(points int) bool {
		return l.placeAfter(api.WinRow{Who: player, From: from, Points: points, Liable: none}) <= place
	})
	if points > api.MaxPoints {
		return none
	}
	return points
}

// placeAfter returns the place of who wins, after this win alone.
func (l leader) placeAfter(row api.WinRow) int {
	l.Points = slices.Clone(l.Points)
	l.pay([]api.WinRow{row})
	return slices.IndexFunc(l.places(), func(s api.Standing) bool { return s.Seat == row.Who })
}

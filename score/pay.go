package score

import (
	"slices"

	"sparrow/api"
	"sparrow/house"
)

// nobody is the liable player where there is none.
const nobody = -1

func isSeat(s api.Set, n int) bool { return between(n, 0, s.Players-1) }

// Shares returns for each seat its share of what the winner gets.
func Shares(h api.House, dealer, winner int) []int {
	if house.CheckHouse(h) != api.OK || !isSeat(h.Set, dealer) || !isSeat(h.Set, winner) {
		return nil
	}
	return sharesOf(h, dealer, winner)
}

func sharesOf(h api.House, dealer, winner int) []int {
	shares := make([]int, h.Set.Players)
	for j := range shares {
		switch {
		case j == winner:
			shares[j] = 0
		case h.Pay.Dealer && (j == dealer || winner == dealer):
			shares[j] = 2
		default:
			shares[j] = 1
		}
	}
	return shares
}

// bill says what is paid for a win, and from whom the tile came.
type bill struct {
	pay          api.Pay
	round        int
	points       int
	shares       []int
	winner, from int
	counters     int
	liable       int
}

func (b bill) drawn() bool { return b.from == b.winner }

// up returns the points for some shares, rounded up.
func (b bill) up(shares int) int {
	n := b.points * shares
	return (n + b.round - 1) / b.round * b.round
}

// alone, all and basic return what another player j pays by their mode; if the tile was drawn, j is never the one from whom it came.
func (b bill) alone(j int) int {
	switch {
	case b.drawn():
		return b.up(b.shares[j])
	case j == b.from:
		return b.up(sum(b.shares))
	}
	return 0
}

func (b bill) all(j int) int {
	if j == b.from {
		return 2 * b.up(b.shares[j])
	}
	return b.up(b.shares[j])
}

func (b bill) basic(j int) int {
	if b.drawn() || j == b.from {
		return b.up(b.shares[j]) + b.pay.Basic
	}
	return b.pay.Basic
}

// forCounters returns what another player j pays for the counters.
func (b bill) forCounters(j int) int {
	switch {
	case b.drawn():
		return b.counters * b.pay.Counter
	case j == b.from:
		return b.counters * b.pay.Counter * (len(b.shares) - 1)
	}
	return 0
}

func sum(l []int) int {
	n := 0
	for _, x := range l {
		n += x
	}
	return n
}

// owed returns what each seat pays.
func (b bill) owed() []int {
	modes := map[int]func(b bill, j int) int{
		api.PayAlone: bill.alone,
		api.PayAll:   bill.all,
		api.PayBasic: bill.basic,
	}
	owed := make([]int, len(b.shares))
	for j := range owed {
		if j != b.winner {
			owed[j] = modes[b.pay.Mode](b, j) + b.forCounters(j)
		}
	}
	b.passOn(owed)
	return owed
}

// passOn makes the liable player pay instead of those who would.
func (b bill) passOn(owed []int) {
	switch {
	case b.liable == nobody || b.liable == b.from:
		return
	case b.drawn():
		n := sum(owed)
		clear(owed)
		owed[b.liable] = n
	default:
		half := (owed[b.from] + 1) / 2
		owed[b.from] -= half
		owed[b.liable] += half
	}
}

// gains returns what each seat gets.
func (b bill) gains() []int {
	owed := b.owed()
	gains := make([]int, len(owed))
	for j, n := range owed {
		gains[j] = -n
	}
	gains[b.winner] = sum(owed)
	return gains
}

// Payment returns what each seat gets for a win.
func Payment(h api.House, points, dealer, winner, from, counters, liable int) ([]int, api.Errno) {
	if e := house.CheckHouse(h); e != api.OK {
		return nil, e
	}
	if !isSeat(h.Set, dealer) || !between(counters, 0, api.MaxCounters) {
		return nil, api.ErrRange
	}
	return payment(h, dealer, counters, api.WinRow{Who: winner, From: from, Points: points, Liable: liable})
}

// payment is Payment for a valid house, a dealer that is a seat, and counters as they may be.
func payment(h api.House, dealer, counters int, row api.WinRow) ([]int, api.Errno) {
	if !between(row.Points, 0, api.MaxPoints) || !isSeat(h.Set, row.Who) || !isSeat(h.Set, row.From) {
		return nil, api.ErrRange
	}
	if row.Liable != nobody && (!isSeat(h.Set, row.Liable) || row.Liable == row.Who) {
		return nil, api.ErrRange
	}
	b := bill{
		pay: h.Pay, round: h.Scale.Round, points: row.Points, shares: sharesOf(h, dealer, row.Who),
		winner: row.Who, from: row.From, counters: counters, liable: row.Liable,
	}
	return b.gains(), api.OK
}

// Settle returns what each seat gets for the wins of a deal, with the counters and sticks on the table.
func Settle(h api.House, dealer, counters, sticks int, rows []api.WinRow) ([]int, api.Errno) {
	if e := house.CheckHouse(h); e != api.OK {
		return nil, e
	}
	if !isSeat(h.Set, dealer) || !between(counters, 0, api.MaxCounters) || !between(sticks, 0, api.MaxSticks) {
		return nil, api.ErrRange
	}
	if len(rows) == 0 {
		return nil, api.ErrMissing
	}
	if len(rows) > h.Set.Players-1 {
		return nil, api.ErrFull
	}
	total := make([]int, h.Set.Players)
	for i, row := range rows {
		if i > 0 {
			counters = 0
		}
		gains, e := payment(h, dealer, counters, row)
		if e != api.OK {
			return nil, e
		}
		for j, n := range gains {
			total[j] += n
		}
	}
	total[rows[0].Who] += sticks * h.Pay.Stick
	return total, api.OK
}

// Liable returns the player who is liable for a winner's melds, in the order in which they were declared; -1 if nobody is.
func Liable(h api.House, winner int, l []api.Fed) int {
	if house.CheckHouse(h) != api.OK || !isSeat(h.Set, winner) {
		return nobody
	}
	for _, f := range h.Pay.Feeds {
		if from := feeder(f, l); isSeat(h.Set, from) && from != winner {
			return from
		}
	}
	return nobody
}

// feeder returns from whom the meld came that completes a feed; nobody if there is no such meld, or it was not called.
func feeder(f api.Feed, l []api.Fed) int {
	n := 0
	for _, m := range l {
		if fits(f, m.Group) {
			n++
		}
		if n == f.Many {
			return calledFrom(m)
		}
	}
	return nobody
}

// fits reports whether a meld is one of those that a feed counts.
func fits(f api.Feed, g api.Group) bool {
	return (g.What == api.Pung || g.What == api.Kong) && slices.Contains(f.Kinds, g.Kind)
}

func calledFrom(m api.Fed) int {
	if m.Group.Open {
		return m.From
	}
	return nobody
}

package score_test

import (
	"math"
	"testing"

	"sparrow/api"
	"sparrow/score"
)

func fed(what, kind, from int) api.Fed { return api.Fed{Group: open(what, kind), From: from} }

// fedBy is the house of the chapter's example, with some feeds.
func fedBy(l ...api.Feed) api.House {
	h := four()
	h.Set.Suits, h.Set.Melds = []int{9}, 2
	h.Pay.Feeds = l
	return h
}

// TestLiable (P5.5): the chapter's example; only the meld that completes a feed counts, if it was called from another player.
func TestLiable(t *testing.T) {
	two, one, alone := api.Feed{Kinds: []int{0, 4}, Many: 2}, api.Feed{Kinds: []int{7}, Many: 1}, api.Feed{Kinds: []int{0}, Many: 1}
	pung, chow, kong := fed(api.Pung, 0, 3), fed(api.Chow, 0, 0), fed(api.Kong, 4, 2)
	closed := api.Fed{Group: group(api.Kong, 4), From: 1}
	for i, c := range []struct {
		h      api.House
		winner int
		l      []api.Fed
		want   int
	}{
		{fedBy(two), 1, []api.Fed{pung, chow, kong}, 2}, {fedBy(two), 1, []api.Fed{pung, chow, closed}, -1}, {fedBy(two), 1, []api.Fed{closed, chow, pung}, 3}, {fedBy(two), 1, []api.Fed{kong, pung}, 3},
		{fedBy(two), 1, []api.Fed{pung, chow}, -1}, {fedBy(two), 1, []api.Fed{pung}, -1}, {fedBy(two), 1, nil, -1}, {fedBy(two), 1, []api.Fed{pung, chow, chow}, -1}, {fedBy(two), 1, []api.Fed{pung, fed(api.Pair, 4, 2)}, -1}, {fedBy(two), 1, []api.Fed{pung, fed(api.Single, 4, 2)}, -1}, {fedBy(two), 1, []api.Fed{pung, fed(api.Pung, 3, 2)}, -1},
		{fedBy(two), 1, []api.Fed{pung, kong, fed(api.Pung, 4, 0)}, 2}, {fedBy(two), 1, []api.Fed{pung, closed, fed(api.Pung, 4, 0)}, -1},
		{fedBy(two), 2, []api.Fed{pung, kong}, -1}, {fedBy(two), 3, []api.Fed{pung, kong}, 2}, {fedBy(two), 1, []api.Fed{pung, fed(api.Pung, 4, 4)}, -1}, {fedBy(two), 1, []api.Fed{pung, fed(api.Pung, 4, -1)}, -1}, {fedBy(two), 1, []api.Fed{pung, fed(api.Pung, 4, math.MinInt)}, -1},
		{fedBy(two), 1, []api.Fed{{Group: api.Group{What: api.Pung, Kind: 0, Open: true}, From: 77}, kong}, 2}, {fedBy(two), 0, []api.Fed{pung, fed(api.Kong, 4, 3)}, 3},
		// The first feed by which somebody is liable.
		{fedBy(one, two), 1, []api.Fed{pung, kong}, 2}, {fedBy(two, alone), 1, []api.Fed{pung, kong}, 2}, {fedBy(alone, two), 1, []api.Fed{pung, kong}, 3}, {fedBy(two, alone), 1, []api.Fed{pung, closed}, 3}, {fedBy(two, alone), 2, []api.Fed{pung, kong}, 3}, {fedBy(two, alone), 1, []api.Fed{kong, fed(api.Pung, 0, 1)}, -1}, {fedBy(one, one, one, alone), 1, []api.Fed{pung}, 3}, {fedBy(), 1, []api.Fed{pung, kong}, -1},
		// Groups that are not valid do not matter.
		{fedBy(two), 1, []api.Fed{fed(7, 0, 3), fed(api.Pung, -1, 3), fed(api.Pung, 99, 3), pung, kong}, 2}, {fedBy(two), 1, []api.Fed{pung, pung}, 3},
		{fedBy(two), 4, []api.Fed{pung, kong}, -1}, {fedBy(two), -1, []api.Fed{pung, kong}, -1}, {fedBy(two), math.MaxInt, []api.Fed{pung, kong}, -1},
	} {
		if n := score.Liable(c.h, c.winner, c.l); n != c.want {
			t.Errorf("%d: %d instead of %d", i, n, c.want)
		}
	}
	for i, h := range wrong() {
		h.Pay.Feeds = append([]api.Feed{alone}, h.Pay.Feeds...)
		if n := score.Liable(h, 1, []api.Fed{fed(api.Pung, 0, 2)}); n != -1 {
			t.Error(i, n)
		}
	}
}

// liableOf is the liable player by the chapter's words.
func liableOf(h api.House, winner int, l []api.Fed) int {
	for _, f := range h.Pay.Feeds {
		var counted []api.Fed
		for _, m := range l {
			for _, k := range f.Kinds {
				if m.Group.Kind == k && (m.Group.What == api.Pung || m.Group.What == api.Kong) {
					counted = append(counted, m)
				}
			}
		}
		if len(counted) < f.Many {
			continue
		}
		if m := counted[f.Many-1]; m.Group.Open && m.From != winner && m.From >= 0 && m.From < h.Set.Players {
			return m.From
		}
	}
	return -1
}

// TestLiablePlayers (P5.5, T6): who is liable is as said; turned seats have turned liable players.
func TestLiablePlayers(t *testing.T) {
	d, found := dice(31), 0
	for range 3000 {
		h := d.house(sets()[d.below(4)])
		n, winner := h.Set.Players, d.below(h.Set.Players)
		var l, turned []api.Fed
		for range d.below(6) {
			m := api.Fed{Group: api.Group{What: 1 + d.below(3), Kind: d.below(5), Open: d.below(4) > 0}, From: d.below(n)}
			l = append(l, m)
			m.From = (m.From + 1) % n
			turned = append(turned, m)
		}
		want := liableOf(h, winner, l)
		next := want
		if want >= 0 {
			found++
			next = (want + 1) % n
		}
		if got, other := score.Liable(h, winner, l), score.Liable(h, (winner+1)%n, turned); got != want || other != next {
			t.Fatal(h.Pay.Feeds, winner, l, got, want, other)
		}
	}
	if found < 100 {
		t.Error("only", found)
	}
}

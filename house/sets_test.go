package house_test

import (
	"slices"
	"testing"

	"sparrow/api"
	"sparrow/house"
	"sparrow/shape"
	"sparrow/tile"
)

// big is a whole set with three suits and honours, small is the set T of the chapter's examples.
func big() api.Set {
	return api.Set{Players: 4, Suits: []int{9, 9, 9}, Winds: 4, Dragons: 3, Copies: 4, Melds: 4, Dead: 14, Reds: []int{4, 13, 22}}
}

func small() api.Set {
	return api.Set{Players: 3, Suits: []int{3}, Dragons: 1, Copies: 4, Melds: 1, Dead: 2, Reds: []int{1}}
}

// level has two melds, and two suits with equally many ranks; uneven has suits of three lengths, fewer winds than players, and flowers.
func level() api.Set {
	return api.Set{Players: 3, Suits: []int{4, 4}, Dragons: 1, Copies: 4, Melds: 2}
}

func uneven() api.Set {
	return api.Set{Players: 3, Suits: []int{3, 5, 4}, Winds: 2, Flowers: 3, Copies: 4, Melds: 3, Dead: 10}
}

// short has one tile of each kind only, and one meld.
func short() api.Set {
	return api.Set{Players: 3, Suits: []int{6, 4}, Winds: 3, Copies: 1, Melds: 1}
}

func sets() []api.Set { return []api.Set{small(), level(), uneven(), short(), big()} }

// shown is the house X of the chapter's examples.
func shown() api.House {
	return api.House{
		Set: small(), Forms: []api.Form{{What: api.FormMelds}},
		Patterns: []api.Pattern{
			{Name: "plain", Closed: 1, Open: 1},
			{Name: "dragon", Closed: 2, Open: 1, Cond: []api.Node{{Op: api.OpGroups, What: 6, All: true, Kinds: []int{3}}}},
			{Name: "quiet", Closed: 1, Cond: []api.Node{{Op: api.OpAnd}, {Op: api.OpSelf}, {Op: api.OpClosed}}},
		},
		Minor: []api.Node{{Op: api.OpTimes}, {Op: api.OpNumber, N: 10}, {Op: api.OpSum}, {Op: api.OpNumber, N: 1}, {Op: api.OpWaits}},
		Least: 1, Scale: api.Scale{Base: 1, Round: 1}, Pay: api.Pay{Mode: api.PayAlone, Rounds: 1}, Play: api.Play{Heads: 1, Time: 5, Foul: api.FoulDead},
	}
}

// bare is a house with a set and forms, and nothing that it does not need.
func bare(s api.Set, forms ...api.Form) api.House {
	return api.House{Set: s, Forms: forms, Scale: api.Scale{Round: 1}, Pay: api.Pay{Mode: api.PayAlone, Rounds: 1}, Play: api.Play{Heads: 1, Time: 1, Foul: api.FoulDead}}
}

// full is a house in which no field has its zero value.
func full() api.House {
	return api.House{
		Set:   api.Set{Players: 4, Suits: []int{9, 8, 9}, Winds: 4, Dragons: 3, Flowers: 8, Copies: 4, Melds: 4, Dead: 14, Reds: []int{4, 13, 22}},
		Forms: []api.Form{{What: api.FormMelds}, {What: api.FormPairs, Again: true}, {What: api.FormEach, Kinds: []int{0, 8, 9, 16, 17, 25, 26, 27, 28, 29, 30, 31, 32}}},
		Patterns: []api.Pattern{
			{Name: "all-pungs", Closed: 2, Open: 3, Cond: []api.Node{{Op: api.OpLeast, N: 4}, {Op: api.OpGroups, What: 6, Open: 2, All: true, Kinds: []int{0, 8}}}, Excludes: []int{1, 2}, Implies: []int{1}},
			{Name: "rows", Closed: 4, Open: 1, Cond: []api.Node{{Op: api.OpRow, What: 1, N: 3, M: 3}}, Excludes: []int{0}, Implies: []int{2}},
			{Name: "a", Closed: 1, Open: 1, Cond: []api.Node{{Op: api.OpTiles}}, Excludes: []int{0}, Implies: []int{0, 1}},
		},
		Minor: []api.Node{{Op: api.OpUp, N: 10}, {Op: api.OpNumber, N: 25}},
		Least: 1, Scale: api.Scale{Base: 8, Double: true, Limits: []api.Limit{{From: 5, Points: 2000}, {From: 6, Points: 3000}}, Round: 100},
		Pay: api.Pay{
			Mode: api.PayAll, Dealer: true, Basic: 8, Counter: 100, Stick: 1000, Pool: 3000, Foul: 8000, Start: 25000, Rounds: 2, Stay: 7, Bust: true,
			Places: []int{30, 10, -10, -30}, Feeds: []api.Feed{{Kinds: []int{30, 31, 32}, Many: 3}, {Kinds: []int{26, 27}, Many: 2}},
		},
		Play: api.Play{Chows: true, Heads: 2, Riichi: true, Last: 4, Furiten: true, Rob: 1, Kongs: 4, Nines: 9, Winds: true, Riichis: true, Swap: true, Time: 7, Foul: api.FoulEnd, Indicators: 5, Show: true, Under: true},
	}
}

func TestHousesAreValid(t *testing.T) {
	houses := []api.House{shown(), full()}
	for _, s := range sets() {
		houses = append(houses, bare(s, formsFor(s)...))
	}
	for i, h := range houses {
		if e := house.CheckHouse(h); e != api.OK {
			t.Error(i, e)
		}
	}
}

func bag(s api.Set, kinds ...int) []int {
	counts := make([]int, tile.Kinds(s))
	for _, k := range kinds {
		counts[k]++
	}
	return counts
}

func group(what, kind int) api.Group { return api.Group{What: what, Kind: kind} }

func open(what, kind int) api.Group { return api.Group{What: what, Kind: kind, Open: true} }

// formsFor are forms of all sorts that are valid for a set.
func formsFor(s api.Set) []api.Form {
	forms := []api.Form{{What: api.FormMelds}, {What: api.FormKnitted}}
	n, many := tile.Kinds(s), 3*s.Melds+2
	if s.Melds%2 == 0 {
		forms = append(forms, api.Form{What: api.FormPairs, Again: true})
	}
	if n >= many-1 {
		forms = append(forms, api.Form{What: api.FormEach, Kinds: ends(s)})
	}
	if s.Melds >= 3 && slices.Equal(s.Suits, []int{9, 9, 9}) {
		forms = append(forms, api.Form{What: api.FormStraight})
	}
	var list []int
	for k := 0; len(list) < many; k++ {
		list = append(list, slices.Repeat([]int{k}, min(s.Copies, k%3+1, many-len(list)))...)
	}
	return append(forms, api.Form{What: api.FormList, Kinds: list})
}

// ends are as many kinds as FormEach has, orphans before others.
func ends(s api.Set) []int {
	kinds, many := tile.Orphans(s), 3*s.Melds+1
	for k := 0; len(kinds) < many; k++ {
		if !slices.Contains(kinds, k) {
			kinds = append(kinds, k)
		}
	}
	return slices.Sorted(slices.Values(kinds[:many]))
}

// dice throws the same numbers in each run of the tests.
type dice uint64

func (d *dice) below(n int) int {
	*d = *d*2862933555777941757 + 3037000493
	return int(uint64(*d)>>20) % n
}

func (d *dice) luck() bool { return d.below(2) == 0 }

// some is an ascending list of kinds, sometimes none.
func (d *dice) some(kinds int) []int {
	var l []int
	if many := d.below(4); many > 0 {
		for k := range kinds {
			if d.below(4) < many {
				l = append(l, k)
			}
		}
	}
	return l
}

// truth is a valid condition that is a truth, number one that is a number, both with at most so many levels of parts.
func (d *dice) truth(kinds, depth int) []api.Node {
	sorts := 9
	if depth == 0 {
		sorts = 5
	}
	switch d.below(sorts) {
	case 0:
		return []api.Node{{Op: api.OpForm, N: 1 + d.below(6)}}
	case 1:
		return []api.Node{{Op: api.OpFlag, N: 1 + d.below(7)}}
	case 2:
		return []api.Node{{Op: []int{api.OpTrue, api.OpSelf, api.OpClosed}[d.below(3)]}}
	case 3, 4:
		return []api.Node{{Op: api.OpLast, What: 1 + d.below(31), N: d.below(4)}}
	case 5:
		return slices.Concat([]api.Node{{Op: api.OpNot}}, d.truth(kinds, depth-1))
	case 6, 7:
		return slices.Concat([]api.Node{{Op: api.OpAnd + d.below(2)}}, d.truth(kinds, depth-1), d.truth(kinds, depth-1))
	}
	return slices.Concat([]api.Node{{Op: api.OpLeast, N: d.below(5)}}, d.number(kinds, depth-1))
}

func (d *dice) number(kinds, depth int) []api.Node {
	if depth == 0 || d.below(3) == 0 {
		return []api.Node{d.leaf(kinds)}
	}
	switch d.below(5) {
	case 0, 1:
		return slices.Concat([]api.Node{{Op: api.OpSum}}, d.number(kinds, depth-1), d.number(kinds, depth-1))
	case 2:
		return slices.Concat([]api.Node{{Op: api.OpTimes}}, d.number(kinds, depth-1), d.number(kinds, depth-1))
	case 3:
		return slices.Concat([]api.Node{{Op: api.OpIf}}, d.truth(kinds, depth-1), d.number(kinds, depth-1), d.number(kinds, depth-1))
	}
	return slices.Concat([]api.Node{{Op: api.OpUp, N: 1 + d.below(12)}}, d.number(kinds, depth-1))
}

// leaf is a number without parts.
func (d *dice) leaf(kinds int) api.Node {
	what := 1 + d.below(31)
	switch d.below(12) {
	case 0, 1, 2:
		return api.Node{Op: api.OpGroups, What: what, Open: d.below(3), All: d.luck(), Kinds: d.some(kinds)}
	case 3:
		return api.Node{Op: api.OpTiles, Kinds: d.some(kinds)}
	case 4:
		return api.Node{Op: api.OpWind, What: what, N: 1 + d.below(2)}
	case 5:
		return api.Node{Op: api.OpTwins, N: 1 + d.below(2)}
	case 6, 7:
		return api.Node{Op: api.OpRow, What: what, N: 2 + d.below(3), M: 1 + d.below(3)}
	case 8, 9:
		return api.Node{Op: api.OpColours, What: what, N: 2 + d.below(2), M: d.below(3)}
	case 10:
		return api.Node{Op: api.OpNumber, N: []int{d.below(40), 1000 + d.below(1000), 1000000 - d.below(3)}[d.below(3)]}
	}
	return api.Node{Op: []int{api.OpBonus, api.OpSuits, api.OpWaits}[d.below(3)]}
}

// place is a hand that wins, how it is read, and how it is won.
type place struct {
	h api.House
	x api.Hand
	r api.Reading
	w api.Win
}

func (p place) value(l ...api.Node) int { return house.Value(p.h, l, p.x, p.r, p.w) }

// places are wins of all sorts, by all forms of all sets.
func places(d *dice, each int) []place {
	var l []place
	for _, s := range sets() {
		h := bare(s, formsFor(s)...)
		for range each {
			for i := range h.Forms {
				x := d.dealt(s, h.Forms[i])
				l = append(l, d.won(h, x)...)
			}
		}
	}
	return l
}

// won are some wins with a full hand, if it wins.
func (d *dice) won(h api.House, x api.Hand) []place {
	var l []place
	for k, n := range x.Bag {
		if n == 0 || d.below(3) > 0 {
			continue
		}
		for _, r := range shape.Readings(h.Set, h.Forms, x, k) {
			w := api.Win{Kind: k, Self: d.luck(), Seat: d.below(h.Set.Players), Round: d.below(h.Set.Players), Bonus: d.below(4)}
			for f := api.FlagRiichi; f <= api.FlagFirst; f++ {
				if d.below(3) == 0 {
					w.Flags = append(w.Flags, f)
				}
			}
			l = append(l, place{h, x, r, w})
		}
	}
	return l
}

// dealt is a full hand that wins by the form f (or one that is not valid, if there are no tiles for it).
func (d *dice) dealt(s api.Set, f api.Form) api.Hand {
	x := api.Hand{Bag: bag(s)}
	switch f.What {
	case api.FormMelds:
		d.addMelds(s, &x, s.Melds)
		d.addGroup(s, &x, api.Pair)
	case api.FormPairs:
		for range (3*s.Melds + 2) / 2 {
			d.addGroup(s, &x, api.Pair)
		}
	case api.FormEach:
		x.Bag = bag(s, append(slices.Clone(f.Kinds), f.Kinds[d.below(len(f.Kinds))])...)
	case api.FormKnitted:
		kinds := d.knit(s)
		for len(kinds) > 3*s.Melds+2 {
			i := d.below(len(kinds))
			kinds = slices.Delete(kinds, i, i+1)
		}
		x.Bag = bag(s, kinds...)
	case api.FormStraight:
		for _, k := range d.knit(s) {
			if k < 27 {
				x.Bag[k]++
			}
		}
		d.addMelds(s, &x, s.Melds-3)
		d.addGroup(s, &x, api.Pair)
	case api.FormList:
		x.Bag = bag(s, f.Kinds...)
	}
	return x
}

// knit are all kinds that one way to knit the suits allows.
func (d *dice) knit(s api.Set) []int {
	turn, step := d.below(3), 1+d.below(2)
	var kinds []int
	for k := range tile.Kinds(s) {
		if suit, rank := tile.Place(s, k); suit < 0 || rank%3 == (turn+suit*step)%3 {
			kinds = append(kinds, k)
		}
	}
	return kinds
}

// addGroup adds a concealed group, if there is one; some kinds are taken more often than others, so that groups meet.
func (d *dice) addGroup(s api.Set, x *api.Hand, what int) {
	if g, ok := d.found(s, *x, what); ok {
		for _, k := range shape.Tiles(s, g) {
			x.Bag[k]++
		}
	}
}

// addMelds adds melds; about one of three is declared.
func (d *dice) addMelds(s api.Set, x *api.Hand, many int) {
	for range many {
		if d.below(3) > 0 {
			d.addGroup(s, x, api.Chow+d.below(2))
			continue
		}
		if g, ok := d.found(s, *x, api.Chow+d.below(3)); ok {
			g.Open = g.What != api.Kong || d.luck()
			x.Melds = append(x.Melds, g)
		}
	}
}

// found is a group of which there are tiles left, and whether one was found.
func (d *dice) found(s api.Set, x api.Hand, what int) (api.Group, bool) {
	for range 50 {
		g := group(what, d.below(len(x.Bag)))
		if suit, rank := tile.Place(s, g.Kind); suit > 0 && rank < s.Suits[0] && d.luck() {
			g.Kind = rank
		}
		all := slices.Clone(x.Bag)
		for _, m := range append(slices.Clone(x.Melds), g) {
			for _, k := range shape.Tiles(s, m) {
				all[k]++
			}
		}
		if len(shape.Tiles(s, g)) > 0 && slices.Max(all) <= s.Copies {
			return g, true
		}
	}
	return api.Group{}, false
}

// noPanic names the call that panicked, against P1.
func noPanic(t *testing.T, name string, call func()) {
	t.Helper()
	defer func() {
		if p := recover(); p != nil {
			t.Errorf("%s panics: %v", name, p)
		}
	}()
	call()
}

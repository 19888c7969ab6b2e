package score_test

import (
	"slices"
	"strconv"
	"testing"

	"sparrow/api"
	"sparrow/house"
	"sparrow/shape"
	"sparrow/tile"
)

// big is a whole set with three suits and honours, small is the set T of layer 1.
func big() api.Set {
	return api.Set{Players: 4, Suits: []int{9, 9, 9}, Winds: 4, Dragons: 3, Copies: 4, Melds: 4, Dead: 14, Reds: []int{4, 13, 22}}
}

func small() api.Set {
	return api.Set{Players: 3, Suits: []int{3}, Dragons: 1, Copies: 4, Melds: 1, Dead: 2, Reds: []int{1}}
}

// level has two melds, and two suits with equally many ranks; uneven has suits of three lengths, fewer winds than players, and flowers.
func level() api.Set {
	return api.Set{Players: 3, Suits: []int{4, 4}, Dragons: 1, Copies: 4, Melds: 2}
}

func uneven() api.Set {
	return api.Set{Players: 3, Suits: []int{3, 5, 4}, Winds: 2, Flowers: 3, Copies: 4, Melds: 3, Dead: 10}
}

func sets() []api.Set { return []api.Set{small(), level(), uneven(), big()} }

// three and four are the houses Y and Z of the chapter's examples.
func three() api.House {
	return api.House{
		Set: small(), Forms: []api.Form{{What: api.FormMelds}}, Least: 1,
		Patterns: []api.Pattern{
			{Name: "a", Closed: 2, Open: 1},
			{Name: "b", Closed: 3, Open: 3, Excludes: []int{0}},
			{Name: "c", Closed: 2, Implies: []int{0}},
		},
		Scale: api.Scale{Base: 8, Double: true, Limits: []api.Limit{{From: 5, Points: 2000}, {From: 6, Points: 3000}}, Round: 100},
		Pay:   api.Pay{Mode: api.PayAlone, Dealer: true, Counter: 100, Stick: 1000, Rounds: 1},
		Play:  api.Play{Heads: 1, Time: 5, Foul: api.FoulDead},
	}
}

func four() api.House {
	h := three()
	h.Set.Players, h.Set.Suits = 4, []int{4}
	return h
}

// listed is a house with some patterns, and nothing else that counts: a value is worth as many points, up to the limits.
func listed(s api.Set, l []api.Pattern, limits ...api.Limit) api.House {
	return api.House{
		Set: s, Forms: []api.Form{{What: api.FormMelds}}, Patterns: l, Scale: api.Scale{Base: 1, Limits: limits, Round: 1},
		Pay: api.Pay{Mode: api.PayAlone, Rounds: 1}, Play: api.Play{Heads: 1, Time: 1, Foul: api.FoulDead},
	}
}

// wrong are houses that are not valid, each with another error.
func wrong() []api.House {
	l := []api.House{{}, three(), three(), three(), three(), three()}
	l[1].Forms = nil
	l[2].Patterns[1].Name = "a"
	l[3].Scale.Round = 0
	l[4].Pay.Mode = 4
	l[5].Pay.Feeds = make([]api.Feed, 5)
	return l
}

func TestHousesAreValid(t *testing.T) {
	d := dice(1)
	houses := []api.House{three(), four(), listed(big(), nil)}
	for range 100 {
		for _, s := range sets() {
			houses = append(houses, d.house(s))
		}
	}
	for i, h := range houses {
		if e := house.CheckHouse(h); e != api.OK {
			t.Fatal(i, e)
		}
	}
	for i, h := range wrong() {
		if house.CheckHouse(h) == api.OK {
			t.Error(i)
		}
	}
}

func bag(s api.Set, kinds ...int) []int {
	counts := make([]int, tile.Kinds(s))
	for _, k := range kinds {
		counts[k]++
	}
	return counts
}

func group(what, kind int) api.Group { return api.Group{What: what, Kind: kind} }

func open(what, kind int) api.Group { return api.Group{What: what, Kind: kind, Open: true} }

// formsFor are forms of all sorts that are valid for a set.
func formsFor(s api.Set) []api.Form {
	forms := []api.Form{{What: api.FormMelds}, {What: api.FormKnitted}}
	n, many := tile.Kinds(s), 3*s.Melds+2
	if s.Melds%2 == 0 {
		forms = append(forms, api.Form{What: api.FormPairs, Again: true})
	}
	if n >= many-1 {
		forms = append(forms, api.Form{What: api.FormEach, Kinds: ends(s)})
	}
	if s.Melds >= 3 && slices.Equal(s.Suits, []int{9, 9, 9}) {
		forms = append(forms, api.Form{What: api.FormStraight})
	}
	var list []int
	for k := 0; len(list) < many; k++ {
		list = append(list, slices.Repeat([]int{k}, min(s.Copies, k%3+1, many-len(list)))...)
	}
	return append(forms, api.Form{What: api.FormList, Kinds: list})
}

// ends are as many kinds as FormEach has, orphans before others.
func ends(s api.Set) []int {
	kinds, many := tile.Orphans(s), 3*s.Melds+1
	for k := 0; len(kinds) < many; k++ {
		if !slices.Contains(kinds, k) {
			kinds = append(kinds, k)
		}
	}
	return slices.Sorted(slices.Values(kinds[:many]))
}

// dice throws the same numbers in each run of the tests.
type dice uint64

func (d *dice) below(n int) int {
	*d = *d*2862933555777941757 + 3037000493
	return int(uint64(*d)>>20) % n
}

func (d *dice) luck() bool { return d.below(2) == 0 }

// house is a valid house with any patterns, points and payments.
func (d *dice) house(s api.Set) api.House {
	h := listed(s, d.patterns(tile.Kinds(s)))
	h.Forms = formsFor(s)
	h.Least = d.below(4)
	switch d.below(3) {
	case 0:
		h.Minor = []api.Node{{Op: api.OpIf}, {Op: api.OpLast, What: 1 + d.below(31)}, {Op: api.OpNumber, N: d.below(30)}, {Op: api.OpNumber, N: d.below(30)}}
	case 1:
		h.Minor = []api.Node{{Op: api.OpSum}, {Op: api.OpNumber, N: d.below(30)}, {Op: api.OpTimes}, {Op: api.OpWaits}, {Op: api.OpTwins, N: 1 + d.below(2)}}
	}
	h.Scale = d.scale()
	h.Pay = api.Pay{Mode: 1 + d.below(3), Dealer: d.luck(), Basic: d.below(20), Counter: d.below(400), Stick: d.below(2000), Rounds: 1}
	for range d.below(4) {
		f := api.Feed{Kinds: d.kinds(tile.Kinds(s)), Many: 1 + d.below(s.Melds)}
		h.Pay.Feeds = append(h.Pay.Feeds, f)
	}
	return h
}

func (d *dice) scale() api.Scale {
	x := api.Scale{Base: d.below(12), Double: d.luck(), Round: []int{1, 7, 10, 100}[d.below(4)]}
	from, points := 0, 0
	for range d.below(4) {
		from, points = from+1+d.below(4), points+d.below(3)*d.below(1000)
		x.Limits = append(x.Limits, api.Limit{From: from, Points: points})
	}
	return x
}

// kinds is an ascending list of at least one number below n.
func (d *dice) kinds(n int) []int {
	l := []int{d.below(n), d.below(n), d.below(n)}
	return slices.Compact(slices.Sorted(slices.Values(l[:1+d.below(3)])))
}

// patterns are up to nine patterns of low values, with many clashes, that hold often.
func (d *dice) patterns(kinds int) []api.Pattern {
	l := make([]api.Pattern, d.below(10))
	for i := range l {
		l[i] = api.Pattern{Name: "p" + strconv.Itoa(i), Closed: d.below(4), Open: d.below(3), Cond: d.cond(kinds)}
		l[i].Excludes, l[i].Implies = d.others(len(l), i), d.others(len(l), i)
	}
	return l
}

// others is an ascending list of other numbers below many than own, mostly none.
func (d *dice) others(many, own int) []int {
	var l []int
	for n := range many {
		if n != own && d.below(7) == 0 {
			l = append(l, n)
		}
	}
	return l
}

func (d *dice) cond(kinds int) []api.Node {
	switch d.below(8) {
	case 0, 1:
		return []api.Node{{Op: []int{api.OpTrue, api.OpSelf, api.OpClosed}[d.below(3)]}}
	case 2:
		return []api.Node{{Op: api.OpLast, What: 1 + d.below(31)}}
	case 3:
		return []api.Node{{Op: api.OpTiles, Kinds: d.kinds(kinds)}}
	case 4:
		return []api.Node{{Op: api.OpGroups, What: 1 + d.below(31), Open: d.below(3)}}
	case 5:
		return []api.Node{{Op: []int{api.OpSuits, api.OpWaits, api.OpBonus}[d.below(3)]}}
	}
	return nil
}

// holds are some patterns of a list, each as often as some times.
func (d *dice) holds(many, times int) []api.Hold {
	var l []api.Hold
	for p := range many {
		if d.below(4) > 0 {
			l = append(l, api.Hold{Pattern: p, Times: 1 + d.below(times)})
		}
	}
	return l
}

// place is a hand that wins, and how it is won.
type place struct {
	h api.House
	x api.Hand
	w api.Win
}

// places are wins of all sorts, in houses of all sorts.
func places(d *dice, each int) []place {
	var l []place
	for _, s := range sets() {
		for range each {
			h := d.house(s)
			for _, f := range h.Forms {
				l = append(l, d.won(h, d.dealt(s, f))...)
			}
			l = append(l, d.won(h, d.dense(s))...)
		}
	}
	return l
}

// won are some wins with a full hand, if it wins.
func (d *dice) won(h api.House, x api.Hand) []place {
	var l []place
	for k, n := range x.Bag {
		w := api.Win{Kind: k, Self: d.luck(), Seat: d.below(h.Set.Players), Round: d.below(h.Set.Players), Bonus: d.below(4)}
		if n > 0 && d.below(3) == 0 && len(shape.Readings(h.Set, h.Forms, x, k)) > 0 {
			l = append(l, place{h, x, w})
		}
	}
	return l
}

// eachWin calls check with many wins, in so many houses of each set.
func eachWin(t *testing.T, seed dice, houses int, check func(d *dice, p place)) {
	t.Helper()
	l := places(&seed, houses)
	if len(l) < 300 {
		t.Fatal("only", len(l), "wins")
	}
	for _, p := range l {
		if check(&seed, p); t.Failed() {
			t.Fatal(p)
		}
	}
}

// dealt is a full hand that wins by the form f (or one that is not valid, if there are no tiles for it).
func (d *dice) dealt(s api.Set, f api.Form) api.Hand {
	x := api.Hand{Bag: bag(s)}
	switch f.What {
	case api.FormMelds:
		d.addMelds(s, &x, s.Melds)
		d.addGroup(s, &x, api.Pair)
	case api.FormPairs:
		for range (3*s.Melds + 2) / 2 {
			d.addGroup(s, &x, api.Pair)
		}
	case api.FormEach:
		x.Bag = bag(s, append(slices.Clone(f.Kinds), f.Kinds[d.below(len(f.Kinds))])...)
	case api.FormKnitted:
		kinds := d.knit(s)
		for len(kinds) > 3*s.Melds+2 {
			i := d.below(len(kinds))
			kinds = slices.Delete(kinds, i, i+1)
		}
		x.Bag = bag(s, kinds...)
	case api.FormStraight:
		for _, k := range d.knit(s) {
			if k < 27 {
				x.Bag[k]++
			}
		}
		d.addMelds(s, &x, s.Melds-3)
		d.addGroup(s, &x, api.Pair)
	case api.FormList:
		x.Bag = bag(s, f.Kinds...)
	}
	return x
}

// dense is a full hand of the first suit (or one that is not valid); such hands can often be read in several ways.
func (d *dice) dense(s api.Set) api.Hand {
	for range 1000 {
		if counts := bag(s); d.filled(s, counts) {
			return hand(counts...)
		}
	}
	return api.Hand{}
}

// filled puts melds and a pair of the first suit into an empty bag, and reports whether there are tiles for them.
func (d *dice) filled(s api.Set, counts []int) bool {
	for range s.Melds {
		for _, k := range shape.Tiles(s, group(api.Chow+d.below(2), d.below(s.Suits[0]))) {
			counts[k]++
		}
	}
	counts[d.below(s.Suits[0])] += 2
	sum := 0
	for _, n := range counts {
		sum += n
	}
	return sum == 3*s.Melds+2 && slices.Max(counts) <= s.Copies
}

// knit are all kinds that one way to knit the suits allows.
func (d *dice) knit(s api.Set) []int {
	turn, step := d.below(3), 1+d.below(2)
	var kinds []int
	for k := range tile.Kinds(s) {
		if suit, rank := tile.Place(s, k); suit < 0 || rank%3 == (turn+suit*step)%3 {
			kinds = append(kinds, k)
		}
	}
	return kinds
}

// addGroup adds a concealed group, if there is one; some kinds are taken more often than others, so that groups meet.
func (d *dice) addGroup(s api.Set, x *api.Hand, what int) {
	if g, ok := d.found(s, *x, what); ok {
		for _, k := range shape.Tiles(s, g) {
			x.Bag[k]++
		}
	}
}

// addMelds adds melds; about one of three is declared.
func (d *dice) addMelds(s api.Set, x *api.Hand, many int) {
	for range many {
		if d.below(3) > 0 {
			d.addGroup(s, x, api.Chow+d.below(2))
			continue
		}
		if g, ok := d.found(s, *x, api.Chow+d.below(3)); ok {
			g.Open = g.What != api.Kong || d.luck()
			x.Melds = append(x.Melds, g)
		}
	}
}

// found is a group of which there are tiles left, and whether one was found.
func (d *dice) found(s api.Set, x api.Hand, what int) (api.Group, bool) {
	for range 50 {
		g := group(what, d.below(len(x.Bag)))
		if suit, rank := tile.Place(s, g.Kind); suit > 0 && rank < s.Suits[0] && d.luck() {
			g.Kind = rank
		}
		all := slices.Clone(x.Bag)
		for _, m := range append(slices.Clone(x.Melds), g) {
			for _, k := range shape.Tiles(s, m) {
				all[k]++
			}
		}
		if len(shape.Tiles(s, g)) > 0 && slices.Max(all) <= s.Copies {
			return g, true
		}
	}
	return api.Group{}, false
}

// noPanic names the call that panicked, against P1.
func noPanic(t *testing.T, name string, call func()) {
	t.Helper()
	defer func() {
		if p := recover(); p != nil {
			t.Errorf("%s panics: %v", name, p)
		}
	}()
	call()
}

package dist_test

import (
	"slices"
	"testing"

	"sparrow/api"
	"sparrow/tile"
)

// big is a whole set with three suits and honours, small is the set T of the chapter's examples.
func big() api.Set {
	return api.Set{Players: 4, Suits: []int{9, 9, 9}, Winds: 4, Dragons: 3, Copies: 4, Melds: 4, Dead: 14, Reds: []int{4, 13, 22}}
}

func small() api.Set {
	return api.Set{Players: 3, Suits: []int{3}, Dragons: 1, Copies: 4, Melds: 1, Dead: 2, Reds: []int{1}}
}

// two and level have two melds; uneven has suits of three lengths, honours and flowers.
func two() api.Set {
	return api.Set{Players: 3, Suits: []int{4}, Dragons: 2, Copies: 4, Melds: 2}
}

func level() api.Set {
	return api.Set{Players: 3, Suits: []int{3, 3}, Dragons: 1, Copies: 4, Melds: 2}
}

func uneven() api.Set {
	return api.Set{Players: 3, Suits: []int{1, 4, 2}, Winds: 1, Flowers: 3, Copies: 3, Melds: 2, Dead: 2}
}

// lone has one tile of each kind, couple has two.
func lone() api.Set {
	return api.Set{Players: 3, Suits: []int{6, 4}, Winds: 2, Dragons: 1, Copies: 1, Melds: 1, Flowers: 1}
}

func couple() api.Set {
	return api.Set{Players: 3, Suits: []int{4, 4}, Winds: 1, Dragons: 1, Copies: 2, Melds: 1}
}

// three has three melds, and no winds and dragons.
func three() api.Set {
	return api.Set{Players: 4, Suits: []int{9, 9, 9}, Copies: 3, Melds: 3}
}

// narrow are sets with so few kinds that all bags can be gone through.
func narrow() []api.Set {
	return []api.Set{small(), two(), level(), uneven(), lone(), couple()}
}

func sets() []api.Set { return append(narrow(), three(), big()) }

func TestSetsAreValid(t *testing.T) {
	for i, s := range sets() {
		if e := tile.Check(s); e != api.OK {
			t.Error(i, e)
		}
	}
}

func open(what, kind int) api.Group { return api.Group{What: what, Kind: kind, Open: true} }

// form is the list of one form.
func form(what int, kinds ...int) []api.Form { return []api.Form{{What: what, Kinds: kinds}} }

// tiny is a hand for the set small, its bag as four counts.
func tiny(a, b, c, d int, melds ...api.Group) api.Hand {
	return api.Hand{Bag: []int{a, b, c, d}, Melds: melds}
}

// bag has a tile of each of the kinds, for the set s.
func bag(s api.Set, kinds ...int) []int {
	counts := make([]int, tile.Kinds(s))
	for _, k := range kinds {
		counts[k]++
	}
	return counts
}

// of is a hand with concealed tiles of some kinds, for the set big.
func of(kinds []int, melds ...api.Group) api.Hand {
	return api.Hand{Bag: bag(big(), kinds...), Melds: melds}
}

func sum(l []int) int {
	n := 0
	for _, x := range l {
		n += x
	}
	return n
}

// formsFor are forms of all sorts that are valid for a set, each once.
func formsFor(s api.Set) []api.Form {
	forms := []api.Form{{What: api.FormMelds}, {What: api.FormKnitted}}
	n, many := tile.Kinds(s), 3*s.Melds+2
	if n >= many-1 {
		forms = append(forms, api.Form{What: api.FormEach, Kinds: ends(s)})
	}
	var list []int
	for k := 0; len(list) < many; k++ {
		list = append(list, slices.Repeat([]int{k}, min(s.Copies, k%3+1, many-len(list)))...)
	}
	forms = append(forms, api.Form{What: api.FormList, Kinds: list})
	if s.Melds%2 == 0 {
		forms = append(forms, api.Form{What: api.FormPairs}, api.Form{What: api.FormPairs, Again: true})
	}
	if s.Melds >= 3 {
		forms = append(forms, api.Form{What: api.FormStraight})
	}
	return forms
}

// ends are as many kinds as FormEach has, orphans before others.
func ends(s api.Set) []int {
	kinds := tile.Orphans(s)
	for k := 0; len(kinds) < 3*s.Melds+1; k++ {
		if !slices.Contains(kinds, k) {
			kinds = append(kinds, k)
		}
	}
	return slices.Sorted(slices.Values(kinds[:3*s.Melds+1]))
}

// dice throws the same numbers in each run of the tests.
type dice uint64

func (d *dice) below(n int) int {
	*d = *d*2862933555777941757 + 3037000493
	return int(uint64(*d)>>20) % n
}

// some is a list of up to n declared melds for which there are tiles.
func (d *dice) some(s api.Set, n int) []api.Group {
	var melds []api.Group
	for range 20 {
		g := api.Group{What: api.Chow + d.below(3), Kind: d.below(tile.Kinds(s)), Open: true}
		g.Open = g.What != api.Kong || d.below(2) == 0
		next := append(slices.Clone(melds), g)
		if len(melds) < n && len(tilesOf(s, g)) > 0 && slices.Min(room(s, next, nil)) >= 0 {
			melds = next
		}
	}
	return melds
}

// drawn is a bag of n tiles, of each kind at most as many as most says; it takes them from most.
func (d *dice) drawn(most []int, n int) []int {
	counts := make([]int, len(most))
	for range n {
		var tiles []int
		for k, m := range most {
			tiles = append(tiles, slices.Repeat([]int{k}, m)...)
		}
		k := tiles[d.below(len(tiles))]
		counts[k]++
		most[k]--
	}
	return counts
}

// hand is a hand with declared melds, at rest or full, and what was seen besides: nothing, some tiles or most of all.
func (d *dice) hand(s api.Set, melds []api.Group, full bool) (api.Hand, []int) {
	n := 3*(s.Melds-len(melds)) + 1
	if full {
		n++
	}
	most := room(s, melds, nil)
	h := api.Hand{Bag: d.drawn(most, n), Melds: melds}
	return h, d.seen(most)
}

// seen is a part of the tiles that are left.
func (d *dice) seen(left []int) []int {
	all := sum(left)
	switch d.below(4) {
	case 0:
		return nil
	case 1:
		return d.drawn(left, d.below(all+1))
	case 2:
		return d.drawn(left, all-d.below(all/4+1))
	}
	return d.drawn(left, d.below(all/3+1))
}

// near is a full hand that wins by melds, or by a straight and melds, after some exchanges; and what was seen besides.
func (d *dice) near(s api.Set, straight bool, exchanges int) (api.Hand, []int) {
	h := api.Hand{Bag: bag(s)}
	melds := s.Melds
	if straight {
		h.Bag, melds = bag(s, knots(s)[d.below(6)]...), s.Melds-3
	}
	for i := range melds + 1 {
		for {
			g := api.Group{What: api.Chow + d.below(2), Kind: d.below(len(h.Bag))}
			if i == melds {
				g.What = api.Pair
			}
			next := slices.Clone(h.Bag)
			for _, k := range tilesOf(s, g) {
				next[k]++
			}
			left := room(s, h.Melds, next)
			if len(tilesOf(s, g)) == 0 || slices.Min(left) < 0 {
				continue
			}
			if i < melds && d.below(4) == 0 {
				g.Open = true
				h.Melds = append(h.Melds, g)
			} else {
				h.Bag = next
			}
			break
		}
	}
	h = d.spoiled(s, h, exchanges)
	return h, d.seen(room(s, h.Melds, h.Bag))
}

// spoiled is a hand after some exchanges.
func (d *dice) spoiled(s api.Set, h api.Hand, exchanges int) api.Hand {
	x := api.Hand{Bag: slices.Clone(h.Bag), Melds: h.Melds}
	for range exchanges {
		out := d.drawn(slices.Clone(x.Bag), 1)
		in := d.drawn(room(s, x.Melds, x.Bag), 1)
		for k := range x.Bag {
			x.Bag[k] += in[k] - out[k]
		}
	}
	return x
}

// rest is a full hand without one of its tiles.
func (d *dice) rest(h api.Hand) api.Hand {
	out := d.drawn(slices.Clone(h.Bag), 1)
	rest := slices.Clone(h.Bag)
	for k, n := range out {
		rest[k] -= n
	}
	return api.Hand{Bag: rest, Melds: h.Melds}
}

// noPanic names the call that panicked, against P1.
func noPanic(t *testing.T, name string, call func()) {
	t.Helper()
	defer func() {
		if p := recover(); p != nil {
			t.Errorf("%s panics: %v", name, p)
		}
	}()
	call()
}

package shape_test

import (
	"slices"

	"sparrow/api"
	"sparrow/tile"
)

// The oracle takes hands apart by the chapter's terms alone: it goes through all lists of groups, and asks of each whether it is what a form wants.

// kindsOf are the kinds of a group's tiles; none if it is a chow that does not run.
func kindsOf(s api.Set, g api.Group) []int {
	switch {
	case g.What == api.Chow && tile.Runs(s, g.Kind):
		return []int{g.Kind, g.Kind + 1, g.Kind + 2}
	case g.What == api.Chow:
		return nil
	}
	return slices.Repeat([]int{g.Kind}, map[int]int{api.Pung: 3, api.Kong: 4, api.Pair: 2, api.Single: 1}[g.What])
}

// lists returns all lists of groups, in order, that have together just the tiles of the bag; ascending.
func lists(s api.Set, bag []int, whats ...int) [][]api.Group {
	var all []api.Group
	for _, what := range whats {
		for kind := range bag {
			if g := (api.Group{What: what, Kind: kind}); without(s, bag, g) != nil {
				all = append(all, g)
			}
		}
	}
	return listsFrom(s, all, bag, nil)
}

// without is the bag without the tiles of a group, nil if it does not have them.
func without(s api.Set, bag []int, g api.Group) []int {
	rest := slices.Clone(bag)
	kinds := kindsOf(s, g)
	for _, k := range kinds {
		rest[k]--
	}
	if len(kinds) == 0 || slices.Min(rest) < 0 {
		return nil
	}
	return rest
}

// listsFrom goes on from a list with groups that are not before the first one of all.
func listsFrom(s api.Set, all []api.Group, left []int, list []api.Group) [][]api.Group {
	if sum(left) == 0 {
		return [][]api.Group{slices.Clone(list)}
	}
	var found [][]api.Group
	for i, g := range all {
		if rest := without(s, left, g); rest != nil {
			found = append(found, listsFrom(s, all[i:], rest, append(slices.Clone(list), g))...)
		}
		if g.What == api.Single && left[g.Kind] > 0 {
			break // a tile that is passed over here is left at the end
		}
	}
	return found
}

// kindsWith returns the kinds of those groups of a list.
func kindsWith(l []api.Group, what int) []int {
	var kinds []int
	for _, g := range l {
		if g.What == what {
			kinds = append(kinds, g.Kind)
		}
	}
	return kinds
}

func different(kinds []int) bool {
	return len(slices.Compact(slices.Sorted(slices.Values(kinds)))) == len(kinds)
}

// knitted asks each two ranks whether they have one remainder if they are of one suit, and two if they are of two.
func knitted(s api.Set, kinds []int) bool {
	for _, a := range kinds {
		for _, b := range kinds {
			x, m := tile.Place(s, a)
			y, n := tile.Place(s, b)
			if x >= 0 && y >= 0 && (x == y) != (m%3 == n%3) {
				return false
			}
		}
	}
	return different(kinds)
}

// obeys reports whether a list of groups is what a form wants besides d declared melds.
func obeys(s api.Set, f api.Form, d int, l []api.Group) bool {
	melds := len(kindsWith(l, api.Chow)) + len(kindsWith(l, api.Pung))
	pairs, alone := kindsWith(l, api.Pair), kindsWith(l, api.Single)
	switch f.What {
	case api.FormMelds:
		return melds == s.Melds-d && len(pairs) == 1 && len(alone) == 0
	case api.FormPairs:
		return d == 0 && len(pairs) == len(l) && (f.Again || different(pairs))
	case api.FormEach:
		return d == 0 && len(pairs) == 1 && melds == 0 && slices.Equal(slices.Sorted(slices.Values(slices.Concat(pairs, alone))), f.Kinds)
	case api.FormKnitted:
		return d == 0 && len(alone) == len(l) && knitted(s, alone)
	case api.FormStraight:
		return d <= s.Melds-3 && melds == s.Melds-3-d && len(pairs) == 1 && len(alone) == 9 && knitted(s, alone) && alone[8] < 27
	}
	return d == 0 && slices.Equal(alone, f.Kinds)
}

// whatsOf are the groups of which a form consists; others need not be tried.
func whatsOf(f api.Form) []int {
	return map[int][]int{
		api.FormMelds:    {api.Chow, api.Pung, api.Pair},
		api.FormPairs:    {api.Pair},
		api.FormEach:     {api.Pair, api.Single},
		api.FormKnitted:  {api.Single},
		api.FormStraight: {api.Chow, api.Pung, api.Pair, api.Single},
		api.FormList:     {api.Single},
	}[f.What]
}

// apart are the readings of a full hand, as the chapter's terms have them, still without Last.
func apart(s api.Set, forms []api.Form, h api.Hand) []api.Reading {
	var list []api.Reading
	for i, f := range forms {
		for _, l := range lists(s, h.Bag, whatsOf(f)...) {
			if obeys(s, f, len(h.Melds), l) {
				list = append(list, api.Reading{Form: i, Groups: slices.Concat(h.Melds, l)})
			}
		}
	}
	return list
}

// lasts are the readings for a winning kind, each of them with each Last that it may have; d melds are declared.
func lasts(s api.Set, l []api.Reading, d, kind int) []api.Reading {
	var list []api.Reading
	for _, r := range l {
		for n, g := range r.Groups {
			if n >= d && slices.Contains(kindsOf(s, g), kind) && !slices.Contains(r.Groups[d:n], g) {
				list = append(list, api.Reading{Form: r.Form, Groups: r.Groups, Last: n})
			}
		}
	}
	return list
}

// formsFor are forms of all sorts that are valid for a set.
func formsFor(s api.Set) []api.Form {
	n := tile.Kinds(s)
	forms := []api.Form{{What: api.FormMelds}, {What: api.FormKnitted}}
	if n > 3*s.Melds {
		forms = append(forms, api.Form{What: api.FormEach, Kinds: ends(s)})
	}
	var list []int
	for k := 0; len(list) < 3*s.Melds+2; k++ {
		list = append(list, slices.Repeat([]int{k * 2 % n}, min(s.Copies, k%3+1, 3*s.Melds+2-len(list)))...)
	}
	slices.Sort(list)
	forms = append(forms, api.Form{What: api.FormList, Kinds: list})
	if s.Melds%2 == 0 {
		forms = append(forms, api.Form{What: api.FormPairs}, api.Form{What: api.FormPairs, Again: true})
	}
	if s.Melds >= 3 {
		forms = append(forms, api.Form{What: api.FormStraight})
	}
	return forms
}

// ends are as many kinds as FormEach has, orphans before others.
func ends(s api.Set) []int {
	kinds := tile.Orphans(s)
	for k := 0; len(kinds) < 3*s.Melds+1; k++ {
		if !slices.Contains(kinds, k) {
			kinds = append(kinds, k)
		}
	}
	return slices.Sorted(slices.Values(kinds[:3*s.Melds+1]))
}

// dealt is a full hand that wins by the form f (or one that is not valid, if there are no tiles for it); if spoiled, one tile is exchanged.
func dealt(s api.Set, f api.Form, d *dice, spoiled bool) api.Hand {
	h := api.Hand{Bag: bag(s)}
	switch f.What {
	case api.FormMelds:
		addMelds(s, &h, d, s.Melds, 3)
		addGroup(s, &h, d, api.Pair)
	case api.FormPairs:
		for range (3*s.Melds + 2) / 2 {
			addGroup(s, &h, d, api.Pair)
		}
	case api.FormEach:
		h.Bag = bag(s, append(slices.Clone(f.Kinds), f.Kinds[d.below(len(f.Kinds))])...)
	case api.FormKnitted:
		kinds := knittedKinds(s, d)
		for len(kinds) > 3*s.Melds+2 {
			i := d.below(len(kinds))
			kinds = slices.Delete(kinds, i, i+1)
		}
		h.Bag = bag(s, kinds...)
	case api.FormStraight:
		for _, k := range knittedKinds(s, d) {
			if k < 27 {
				h.Bag[k]++
			}
		}
		addMelds(s, &h, d, s.Melds-3, 3)
		addGroup(s, &h, d, api.Pair)
	case api.FormList:
		h.Bag = bag(s, f.Kinds...)
	}
	if spoiled {
		exchange(s, &h, d)
	}
	return h
}

// knittedKinds are all kinds that one way to knit the suits allows.
func knittedKinds(s api.Set, d *dice) []int {
	turn, step := d.below(3), 1+d.below(2)
	var kinds []int
	for k := range tile.Kinds(s) {
		if suit, rank := tile.Place(s, k); suit < 0 || rank%3 == (turn+suit*step)%3 {
			kinds = append(kinds, k)
		}
	}
	return kinds
}

// allOf is what a hand has of each kind, with melds.
func allOf(s api.Set, h api.Hand) []int {
	all := slices.Clone(h.Bag)
	for _, m := range h.Melds {
		for _, k := range kindsOf(s, m) {
			all[k]++
		}
	}
	return all
}

// found is a group of which there are tiles left, and whether one was found.
func found(s api.Set, h api.Hand, d *dice, what int) (api.Group, bool) {
	for range 50 {
		g := api.Group{What: what, Kind: d.below(len(h.Bag))}
		all := allOf(s, api.Hand{Bag: h.Bag, Melds: append(slices.Clone(h.Melds), g)})
		if len(kindsOf(s, g)) > 0 && slices.Max(all) <= s.Copies {
			return g, true
		}
	}
	return api.Group{}, false
}

// addGroup adds a concealed group, if there is one.
func addGroup(s api.Set, h *api.Hand, d *dice, what int) {
	if g, ok := found(s, *h, d, what); ok {
		for _, k := range kindsOf(s, g) {
			h.Bag[k]++
		}
	}
}

// addMelds adds n melds; about one of so many is declared.
func addMelds(s api.Set, h *api.Hand, d *dice, n, many int) {
	for range n {
		if d.below(many) > 0 {
			addGroup(s, h, d, api.Chow+d.below(2))
			continue
		}
		if g, ok := found(s, *h, d, api.Chow+d.below(3)); ok {
			g.Open = g.What != api.Kong || d.below(2) == 0
			h.Melds = append(h.Melds, g)
		}
	}
}

// exchange takes a tile from the bag and puts another one there.
func exchange(s api.Set, h *api.Hand, d *dice) {
	for range 50 {
		a, b := d.below(len(h.Bag)), d.below(len(h.Bag))
		if h.Bag[a] > 0 && allOf(s, *h)[b] < s.Copies {
			h.Bag[a]--
			h.Bag[b]++
			return
		}
	}
}

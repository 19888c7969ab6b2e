package shape

import (
	"slices"

	"sparrow/api"
)

// pile is a full hand that is taken apart: its concealed tiles, and how many melds are declared.
type pile struct {
	ground
	bag      counts
	declared int
}

func newPile(s api.Set, h api.Hand) *pile {
	return &pile{ground: newGround(s), bag: total(api.Hand{Bag: h.Bag}), declared: len(h.Melds)}
}

// apart returns the concealed groups of all readings by a valid form, ascending, each once.
func (p *pile) apart(f api.Form) [][]api.Group {
	withMelds := f.What == api.FormMelds || f.What == api.FormStraight
	if p.declared > 0 && !withMelds {
		return nil
	}
	ways := [...]func(*pile, api.Form) [][]api.Group{
		api.FormMelds:    (*pile).byMelds,
		api.FormPairs:    (*pile).byPairs,
		api.FormEach:     (*pile).byEach,
		api.FormKnitted:  (*pile).byKnitted,
		api.FormStraight: (*pile).byStraight,
		api.FormList:     (*pile).byList,
	}
	return ways[f.What](p, f)
}

func (p *pile) byMelds(api.Form) [][]api.Group { return p.splits(p.bag) }

func (p *pile) byPairs(f api.Form) [][]api.Group {
	var groups []api.Group
	for k, n := range p.bag {
		if n%2 != 0 || n > 2 && !f.Again {
			return nil
		}
		for range n / 2 {
			groups = append(groups, api.Group{What: api.Pair, Kind: k})
		}
	}
	return [][]api.Group{groups}
}

func (p *pile) byEach(f api.Form) [][]api.Group {
	want := bagOf(f.Kinds)
	for i, k := range f.Kinds {
		want[k]++
		if want == p.bag {
			others := slices.Concat(f.Kinds[:i], f.Kinds[i+1:])
			return [][]api.Group{append([]api.Group{{What: api.Pair, Kind: k}}, singles(others)...)}
		}
		want[k]--
	}
	return nil
}

func (p *pile) byList(f api.Form) [][]api.Group {
	if bagOf(f.Kinds) != p.bag {
		return nil
	}
	return [][]api.Group{singles(f.Kinds)}
}

func bagOf(kinds []int) counts {
	var bag counts
	for _, k := range kinds {
		bag[k]++
	}
	return bag
}

func singles(kinds []int) []api.Group {
	var groups []api.Group
	for _, k := range kinds {
		groups = append(groups, api.Group{What: api.Single, Kind: k})
	}
	return groups
}

// remainders are those of the ranks in each suit, modulo 3.
type remainders [api.MaxSuits]int

// knits are the remainders that knitted suits may have: all different.
var knits = [...]remainders{{0, 1, 2}, {0, 2, 1}, {1, 0, 2}, {1, 2, 0}, {2, 0, 1}, {2, 1, 0}}

func (p *pile) byKnitted(api.Form) [][]api.Group {
	var kinds []int
	for k, n := range p.bag {
		if n > 1 {
			return nil
		}
		if n == 1 {
			kinds = append(kinds, k)
		}
	}
	for _, r := range knits {
		if p.against(r, kinds) == r {
			return [][]api.Group{singles(kinds)}
		}
	}
	return nil
}

// against returns r, with the remainder of a rank that departs from it in each suit that has one. (A suit without tiles may have any remainder.)
func (p *pile) against(r remainders, kinds []int) remainders {
	found := r
	for _, k := range kinds {
		if suit := p.suit[k]; suit >= 0 && p.rank[k]%3 != r[suit] {
			found[suit] = p.rank[k] % 3
		}
	}
	return found
}

// byStraight needs no look at the declared melds: with more than Melds - 3 of them there are not nine concealed tiles.
func (p *pile) byStraight(api.Form) [][]api.Group {
	for _, r := range knits {
		kinds, rest, ok := p.straight(r)
		if !ok {
			continue
		}
		found := p.splits(rest)
		for i := range found {
			found[i] = append(found[i], singles(kinds)...)
		}
		// No other remainders fit: two straights have at least 15 kinds together, and no hand has so many tiles.
		return found
	}
	return nil
}

// straight returns the nine kinds with some remainders, what the bag has besides, and whether it has all of the nine.
func (p *pile) straight(r remainders) (kinds []int, rest counts, ok bool) {
	rest = p.bag
	for k := range p.kinds {
		if suit := p.suit[k]; suit < 0 || p.rank[k]%3 != r[suit] {
			continue
		}
		if rest[k] == 0 {
			return nil, counts{}, false
		}
		rest[k]--
		kinds = append(kinds, k)
	}
	return kinds, rest, true
}

// Readings returns all readings of a full hand for the winning kind last: by Form, then by Groups, then by Last.
func Readings(s api.Set, l []api.Form, h api.Hand, last int) []api.Reading {
	if CheckForms(s, l) != api.OK || !Full(s, h) || !plain(s, last) || h.Bag[last] == 0 {
		return nil
	}
	var list []api.Reading
	p := newPile(s, h)
	for i, f := range l {
		for _, concealed := range p.apart(f) {
			for _, n := range places(concealed, last) {
				groups := slices.Concat(h.Melds, concealed)
				list = append(list, api.Reading{Form: i, Groups: groups, Last: len(h.Melds) + n})
			}
		}
	}
	return list
}

// places returns the numbers of the groups that have a tile of a kind, of equal ones the first. The groups are in order, so equal ones are neighbours.
func places(l []api.Group, kind int) []int {
	var list []int
	for i, g := range l {
		width := 1
		if g.What == api.Chow {
			width = 3
		}
		if between(kind, g.Kind, g.Kind+width-1) && (i == 0 || g != l[i-1]) {
			list = append(list, i)
		}
	}
	return list
}

// Is reports whether r is one of the readings of a full hand for the winning kind last.
func Is(s api.Set, l []api.Form, h api.Hand, last int, r api.Reading) bool {
	return slices.ContainsFunc(Readings(s, l, h, last), func(x api.Reading) bool {
		return x.Form == r.Form && x.Last == r.Last && slices.Equal(x.Groups, r.Groups)
	})
}

// Wins reports whether a full hand wins by some forms.
func Wins(s api.Set, l []api.Form, h api.Hand) bool {
	if CheckForms(s, l) != api.OK || !Full(s, h) {
		return false
	}
	p := newPile(s, h)
	return slices.ContainsFunc(l, func(f api.Form) bool { return len(p.apart(f)) > 0 })
}

// Waits returns the kinds for which a hand at rest waits, ascending.
func Waits(s api.Set, l []api.Form, h api.Hand) []int {
	if CheckForms(s, l) != api.OK || CheckHand(s, h) != api.OK || Full(s, h) {
		return nil
	}
	var waits []int
	p, all := newPile(s, h), total(h)
kinds:
	for k := range p.kinds {
		if all[k] == s.Copies {
			continue
		}
		next := *p
		next.bag[k]++
		for _, f := range l {
			if len(next.apart(f)) > 0 {
				waits = append(waits, k)
				continue kinds
			}
		}
	}
	return waits
}

package dist

import (
	"sparrow/api"
	"sparrow/tile"
)

// counts are how many tiles there are of each plain kind; those behind the last kind of the set are 0.
type counts [api.MaxKinds]int

// plan is what a form asks of a target: tiles that are fixed, and so many melds, pairs and singles besides. Of each kind at most so many pairs and singles can be chosen as pairing and single say.
type plan struct {
	fixed                 counts
	melds, pairs, singles int
	pairing               int
	single                counts
}

// whole is how many tiles a full hand without declared melds has.
func whole(s api.Set) int { return 3*s.Melds + 2 }

// plansFor returns the plans of a valid form for a hand with so many declared melds; a target for the form is what one of them asks for.
func plansFor(s api.Set, f api.Form, declared int) []plan {
	withMelds := f.What == api.FormMelds || f.What == api.FormStraight
	if declared > 0 && !withMelds {
		return nil
	}
	ways := map[int]func(s api.Set, f api.Form, declared int) []plan{
		api.FormMelds:    byMelds,
		api.FormPairs:    byPairs,
		api.FormEach:     byEach,
		api.FormKnitted:  byKnitted,
		api.FormStraight: byStraight,
		api.FormList:     byList,
	}
	return ways[f.What](s, f, declared)
}

func byMelds(s api.Set, _ api.Form, declared int) []plan {
	return []plan{{melds: s.Melds - declared, pairs: 1, pairing: 1}}
}

func byPairs(s api.Set, f api.Form, _ int) []plan {
	p := plan{pairs: whole(s) / 2, pairing: 1}
	if f.Again {
		p.pairing = api.MaxCopies / 2
	}
	return []plan{p}
}

// byEach takes the pair as a second single of one of the kinds.
func byEach(_ api.Set, f api.Form, _ int) []plan {
	kinds := bagOf(f.Kinds)
	return []plan{{fixed: kinds, singles: 1, single: kinds}}
}

func byList(_ api.Set, f api.Form, _ int) []plan {
	return []plan{{fixed: bagOf(f.Kinds)}}
}

func bagOf(kinds []int) counts {
	var bag counts
	for _, k := range kinds {
		bag[k]++
	}
	return bag
}

// remainders are those of the ranks in each suit, modulo 3.
type remainders [api.MaxSuits]int

// knits are the remainders that knitted suits may have: all different.
var knits = [...]remainders{{0, 1, 2}, {0, 2, 1}, {1, 0, 2}, {1, 2, 0}, {2, 0, 1}, {2, 1, 0}}

func byKnitted(s api.Set, _ api.Form, _ int) []plan {
	var plans []plan
	for _, r := range knits {
		plans = append(plans, plan{singles: whole(s), single: knitted(s, r, 1)})
	}
	return plans
}

func byStraight(s api.Set, _ api.Form, declared int) []plan {
	free := s.Melds - 3 - declared
	if free < 0 {
		return nil
	}
	var plans []plan
	for _, r := range knits {
		plans = append(plans, plan{fixed: knitted(s, r, 0), melds: free, pairs: 1, pairing: 1})
	}
	return plans
}

// knitted has a tile of each rank with the remainder of its suit, and so many of each wind and dragon.
func knitted(s api.Set, r remainders, honours int) counts {
	var bag counts
	for k := range tile.Kinds(s) {
		suit, rank := tile.Place(s, k)
		if suit < 0 {
			bag[k] = honours
		} else if rank%3 == r[suit] {
			bag[k] = 1
		}
	}
	return bag
}

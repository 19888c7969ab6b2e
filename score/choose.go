package score

import (
	"math/bits"

	"sparrow/api"
	"sparrow/house"
)

// patterns is a set of patterns as bits. The lower a pattern's number, the higher its bit: of two choices with one value, the greater set of bits is the one whose ascending list comes first.
type patterns uint64

const highest patterns = 1 << 63

func only(pattern int) patterns { return highest >> pattern }

// first returns the number of the first pattern of a set that is not empty.
func (s patterns) first() int { return bits.LeadingZeros64(uint64(s)) }

func (s patterns) has(pattern int) bool { return s&only(pattern) != 0 }

func (s patterns) size() int { return bits.OnesCount64(uint64(s)) }

// list returns the patterns of a set, ascending.
func (s patterns) list() []int {
	l := make([]int, 0, s.size())
	for ; s != 0; s &^= only(s.first()) {
		l = append(l, s.first())
	}
	return l
}

// Choose returns the patterns of the best choice of holds, ascending, and its value.
func Choose(h api.House, holds []api.Hold, open bool) (counted []int, value int, e api.Errno) {
	if e := house.CheckHouse(h); e != api.OK {
		return nil, 0, e
	}
	if e := checkHolds(h.Patterns, holds); e != api.OK {
		return nil, 0, e
	}
	counted, value = bestChoice(h.Patterns, holds, open)
	return counted, value, api.OK
}

// checkHolds returns the first error of holds of the patterns of a house.
func checkHolds(l []api.Pattern, holds []api.Hold) api.Errno {
	if len(holds) > api.MaxPatterns {
		return api.ErrFull
	}
	for i, x := range holds {
		if !between(x.Pattern, 0, len(l)-1) || !between(x.Times, 1, api.MaxValue) {
			return api.ErrRange
		}
		if i > 0 && x.Pattern <= holds[i-1].Pattern {
			return api.ErrOrder
		}
	}
	return api.OK
}

// valueOf returns the value of a pattern in a hand.
func valueOf(p api.Pattern, open bool) int {
	if open {
		return p.Open
	}
	return p.Closed
}

// conflicts are, for each pattern, those that clash with it.
type conflicts [api.MaxPatterns]patterns

func conflictsOf(l []api.Pattern) conflicts {
	var c conflicts
	for i, p := range l {
		for _, others := range [...][]int{p.Excludes, p.Implies} {
			for _, other := range others {
				c[i] |= only(other)
				c[other] |= only(i)
			}
		}
	}
	return c
}

// linked returns the first pattern of a set, and all those of the set to which clashes lead from it.
func (c *conflicts) linked(set patterns) patterns {
	found, ahead := patterns(0), only(set.first())
	for ahead != 0 {
		p := ahead.first()
		found |= only(p)
		ahead = (ahead | c[p]&set) &^ found
	}
	return found
}

// busiest returns the pattern of a set that clashes with most of the set.
func (c *conflicts) busiest(set patterns) int {
	busy, most := 0, -1
	for rest := set; rest != 0; rest &^= only(rest.first()) {
		p := rest.first()
		if n := (c[p] & set).size(); n > most {
			busy, most = p, n
		}
	}
	return busy
}

// choice is some patterns that do not clash, and their value.
type choice struct {
	value int
	set   patterns
}

// and returns two choices together, which have no pattern in common.
func (a choice) and(b choice) choice { return choice{a.value + b.value, a.set | b.set} }

// or returns the better one of two choices.
func (a choice) or(b choice) choice {
	if a.value > b.value || a.value == b.value && a.set > b.set {
		return a
	}
	return b
}

// bestChoice searches the best choice of holds that are valid. Patterns that no clash links are searched apart from each other; otherwise the busiest one is counted or is not, as that leaves the least to search.
func bestChoice(l []api.Pattern, holds []api.Hold, open bool) (counted []int, value int) {
	var worth [api.MaxPatterns]int
	counting := patterns(0)
	for _, x := range holds {
		if n := x.Times * valueOf(l[x.Pattern], open); n > 0 {
			worth[x.Pattern] = n
			counting |= only(x.Pattern)
		}
	}
	clashing := conflictsOf(l)
	var best func(free patterns) choice
	best = func(free patterns) choice {
		if free == 0 {
			return choice{}
		}
		if part := clashing.linked(free); part != free {
			return best(part).and(best(free &^ part))
		}
		p := clashing.busiest(free)
		left := free &^ only(p)
		return best(left &^ clashing[p]).and(choice{worth[p], only(p)}).or(best(left))
	}
	found := best(counting)
	return found.set.list(), found.value
}

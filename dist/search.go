package dist

import (
	"iter"

	"sparrow/api"
	"sparrow/shape"
	"sparrow/tile"
)

// state is where a search stands: by which plan, before which kind, how many melds, pairs and singles are still to be chosen, and of how many chosen chows this kind is the second one, and the third one.
type state [7]int

// The places in a state.
const (
	byPlan = iota
	atKind
	toMeld
	toPair
	toSingle
	second
	third
)

// never is a lack that no target has.
const never = api.MaxTiles

// search looks for the nearest targets of a hand. Most is how many tiles of each kind a target may have, lacks what was found out about states.
type search struct {
	kinds     int
	runs      [api.MaxKinds]bool
	plans     []plan
	bag, most counts
	lacks     map[state]int
}

// newSearch is the search for valid arguments.
func newSearch(s api.Set, forms []api.Form, h api.Hand, seen []int) *search {
	q := &search{kinds: tile.Kinds(s), lacks: map[state]int{}}
	for _, f := range forms {
		q.plans = append(q.plans, plansFor(s, f, len(h.Melds))...)
	}
	copy(q.bag[:], h.Bag)
	for k, n := range leftOf(s, h, seen) {
		q.most[k] = h.Bag[k] + n
		q.runs[k] = tile.Runs(s, k)
	}
	return q
}

// leftOf returns how many tiles of each plain kind are left, for valid arguments.
func leftOf(s api.Set, h api.Hand, seen []int) []int {
	left := shape.Total(s, h)
	for k, n := range left {
		left[k] = s.Copies - n
	}
	for k, n := range seen {
		left[k] -= n
	}
	return left
}

// moves yields how many tiles of a state's kind a target may have, and the state that follows; some of them more than once.
func (q *search) moves(at state) iter.Seq2[int, state] {
	return func(yield func(int, state) bool) {
		kind, p := at[atKind], &q.plans[at[byPlan]]
		chows := 0
		if q.runs[kind] {
			chows = min(2, at[toMeld]) // three equal chows are three pungs
		}
		for c := range chows + 1 {
			for pungs := range min(1, at[toMeld]-c) + 1 {
				for pairs := range min(p.pairing, at[toPair]) + 1 {
					for singles := range min(p.single[kind], at[toSingle]) + 1 {
						n := p.fixed[kind] + at[second] + at[third] + c + 3*pungs + 2*pairs + singles
						next := state{
							byPlan: at[byPlan], atKind: kind + 1,
							toMeld: at[toMeld] - c - pungs, toPair: at[toPair] - pairs, toSingle: at[toSingle] - singles,
							second: c, third: at[second],
						}
						if n <= q.most[kind] && !yield(n, next) {
							return
						}
					}
				}
			}
		}
	}
}

// lack returns how many tiles at least the bag lacks from a state's kind on; never if no target follows.
func (q *search) lack(at state) int {
	kind := at[atKind]
	if kind == q.kinds {
		if at == (state{byPlan: at[byPlan], atKind: kind}) {
			return 0
		}
		return never
	}
	if n, ok := q.lacks[at]; ok {
		return n
	}
	least := never
	for n, next := range q.moves(at) {
		least = min(least, max(0, n-q.bag[kind])+q.lack(next))
	}
	q.lacks[at] = least
	return least
}

// start is the first state of a plan.
func (q *search) start(number int) state {
	p := q.plans[number]
	return state{byPlan: number, toMeld: p.melds, toPair: p.pairs, toSingle: p.singles}
}

// distance returns the distance; -1 if there is no target.
func (q *search) distance() int {
	least := never
	for i := range q.plans {
		least = min(least, q.lack(q.start(i)))
	}
	if least == never {
		return -1
	}
	return least
}

// front is states before one kind, each once, in the order in which they came.
type front struct {
	states []state
	has    map[state]bool
}

func newFront() *front { return &front{has: map[state]bool{}} }

func (f *front) add(at state) {
	if !f.has[at] {
		f.has[at] = true
		f.states = append(f.states, at)
	}
}

// starts are the first states of the nearest targets.
func (q *search) starts() *front {
	f, distance := newFront(), q.distance()
	for i := range q.plans {
		if at := q.start(i); q.lack(at) == distance {
			f.add(at)
		}
	}
	return f
}

// onward yields the moves to the nearest targets only.
func (q *search) onward(f *front) iter.Seq2[int, state] {
	return func(yield func(int, state) bool) {
		for _, at := range f.states {
			for n, next := range q.moves(at) {
				lack := max(0, n-q.bag[at[atKind]]) + q.lack(next)
				if lack == q.lack(at) && !yield(n, next) {
					return
				}
			}
		}
	}
}

// nearest returns the nearest target; there has to be one. Several states may lead to the same counts, so all of them are followed.
func (q *search) nearest() []int {
	var target []int
	at := q.starts()
	for range q.kinds {
		least, next := never, newFront()
		for n, to := range q.onward(at) {
			if n < least {
				least, next = n, newFront()
			}
			if n == least {
				next.add(to)
			}
		}
		target = append(target, least)
		at = next
	}
	return target
}

// improving yields the kinds that improve a hand at rest, ascending: those of which a nearest target has more than the bag. One more tile of such a kind lessens the lack for this target, and of no other kind that for a nearest one.
func (q *search) improving() iter.Seq[int] {
	return func(yield func(int) bool) {
		at := q.starts()
		for kind := range q.kinds {
			most, next := 0, newFront()
			for n, to := range q.onward(at) {
				most = max(most, n)
				next.add(to)
			}
			if most > q.bag[kind] && !yield(kind) {
				return
			}
			at = next
		}
	}
}

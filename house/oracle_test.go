package house_test

import (
	"slices"
	"testing"

	"sparrow/api"
	"sparrow/house"
	"sparrow/shape"
)

// oracle says what a condition is by the chapter's table alone, node by node, without the package. A truth is 1 if it holds.
type oracle struct {
	place
	left []api.Node
}

func (o *oracle) value() int {
	if len(o.left) == 0 {
		return 1
	}
	n := o.left[0]
	o.left = o.left[1:]
	var parts []int
	for range map[int]int{api.OpNot: 1, api.OpAnd: 2, api.OpOr: 2, api.OpLeast: 1, api.OpSum: 2, api.OpTimes: 2, api.OpIf: 3, api.OpUp: 1}[n.Op] {
		parts = append(parts, o.value())
	}
	switch n.Op {
	case api.OpTrue:
		return 1
	case api.OpNot:
		return 1 - parts[0]
	case api.OpAnd:
		return min(parts[0], parts[1])
	case api.OpOr:
		return max(parts[0], parts[1])
	case api.OpLeast:
		return one(parts[0] >= n.N)
	case api.OpNumber:
		return n.N
	case api.OpSum:
		return min(parts[0]+parts[1], 1000000)
	case api.OpTimes:
		return min(parts[0]*parts[1], 1000000)
	case api.OpIf:
		return parts[2-parts[0]]
	case api.OpUp:
		least := 0
		for least < parts[0] {
			least += n.N
		}
		return min(least, 1000000)
	}
	return o.seen(n)
}

func one(holds bool) int {
	if holds {
		return 1
	}
	return 0
}

// seen is what a node without parts sees of the win.
func (o *oracle) seen(n api.Node) int {
	switch n.Op {
	case api.OpForm:
		return one(o.h.Forms[o.r.Form].What == n.N)
	case api.OpFlag:
		return one(slices.Contains(o.w.Flags, n.N))
	case api.OpSelf:
		return one(o.w.Self)
	case api.OpClosed:
		return one(len(o.in(31, 1)) == 0)
	case api.OpLast:
		g := o.r.Groups[o.r.Last]
		return one(isIn(g, n.What) && (n.N == 0 || g.What == api.Chow && o.how(g.Kind) == n.N))
	case api.OpGroups:
		many := 0
		for _, g := range o.in(n.What, n.Open) {
			fit := 0
			for _, k := range tilesOf(g) {
				fit += one(len(n.Kinds) == 0 || slices.Contains(n.Kinds, k))
			}
			many += one(fit == len(tilesOf(g)) || fit > 0 && !n.All)
		}
		return many
	case api.OpTiles:
		many := 0
		for _, g := range o.r.Groups {
			for _, k := range tilesOf(g) {
				many += one(len(n.Kinds) == 0 || slices.Contains(n.Kinds, k))
			}
		}
		return many
	case api.OpBonus:
		return o.w.Bonus
	case api.OpWind:
		wind := []int{o.w.Seat, o.w.Round}[n.N-1]
		return one(wind < o.h.Set.Winds) * len(o.of(n.What, o.start(len(o.h.Set.Suits))+wind))
	case api.OpTwins:
		many := 0
		for k := range o.x.Bag {
			chows := o.of(1, k)
			if n.N == 2 {
				chows = slices.DeleteFunc(chows, func(g api.Group) bool { return g.Open })
			}
			many += len(chows) / 2
		}
		return many
	case api.OpRow:
		return o.rows(n)
	case api.OpColours:
		return o.colours(n)
	case api.OpSuits:
		many := 0
		for i := range o.h.Set.Suits {
			tiles := 0
			for k := o.start(i); k < o.start(i+1); k++ {
				tiles += shape.Total(o.h.Set, o.x)[k]
			}
			many += one(tiles > 0)
		}
		return many
	}
	return o.waits()
}

// start is the first kind of a suit; of the one behind the last suit the first wind.
func (o *oracle) start(suit int) int {
	n := 0
	for _, ranks := range o.h.Set.Suits[:suit] {
		n += ranks
	}
	return n
}

func isIn(g api.Group, what int) bool { return what>>(g.What-1)%2 == 1 }

// in are the groups in what, that are open (1), that are not (2), or all (0).
func (o *oracle) in(what, only int) []api.Group {
	var l []api.Group
	for _, g := range o.r.Groups {
		if isIn(g, what) && (only == 0 || g.Open == (only == 1)) {
			l = append(l, g)
		}
	}
	return l
}

// of are the groups in what with a kind.
func (o *oracle) of(what, kind int) []api.Group {
	return slices.DeleteFunc(o.in(what, 0), func(g api.Group) bool { return g.Kind != kind })
}

func tilesOf(g api.Group) []int {
	if g.What == api.Chow {
		return []int{g.Kind, g.Kind + 1, g.Kind + 2}
	}
	return slices.Repeat([]int{g.Kind}, []int{0, 0, 3, 4, 2, 1}[g.What])
}

// how is how a chow was won: in the middle (1), at the edge (2), or at an end (3).
func (o *oracle) how(chow int) int {
	for i, ranks := range o.h.Set.Suits {
		first, last := o.start(i), o.start(i)+ranks-1
		switch {
		case chow < first || chow > last:
		case o.w.Kind == chow+1:
			return 1
		case o.w.Kind == chow+2 && chow == first, o.w.Kind == chow && chow+2 == last:
			return 2
		default:
			return 3
		}
	}
	return 0
}

func (o *oracle) rows(n api.Node) int {
	many := 0
	for i, ranks := range o.h.Set.Suits {
	ranks:
		for rank := range ranks {
			for j := range n.N {
				if rank+j*n.M >= ranks || len(o.of(n.What, o.start(i)+rank+j*n.M)) == 0 {
					continue ranks
				}
			}
			many++
		}
	}
	return many
}

func (o *oracle) colours(n api.Node) int {
	many := 0
	for rank := range 9 {
		found := false
		for _, order := range [][]int{{0, 1, 2}, {0, 2, 1}, {1, 0, 2}, {1, 2, 0}, {2, 0, 1}, {2, 1, 0}} {
			fits := true
			for j, suit := range order[:n.N] {
				r := rank + j*n.M
				fits = fits && suit < len(o.h.Set.Suits) && r < o.h.Set.Suits[suit] && len(o.of(n.What, o.start(suit)+r)) > 0
			}
			found = found || fits
		}
		many += one(found)
	}
	return many
}

func (o *oracle) waits() int {
	many := 0
	for k := range o.x.Bag {
		next := shape.Copy(o.x)
		next.Bag[o.w.Kind]--
		next.Bag[k]++
		many += one(shape.Wins(o.h.Set, o.h.Forms, next))
	}
	return many
}

// TestOracle (P4.2, P4.11): conditions of all sorts have the values that the oracle finds, alone, as patterns and as minor points.
func TestOracle(t *testing.T) {
	d := dice(4)
	met := map[[2]int]int{}
	for i, p := range places(&d, 30) {
		kinds := len(p.x.Bag)
		for range 6 {
			l := d.truth(kinds, 1+d.below(3))
			if d.luck() {
				l = d.number(kinds, d.below(4))
			}
			number, e := house.CheckCond(p.h.Set, l)
			if len(l) > api.MaxNodes {
				continue
			}
			if e != api.OK || number != (l[0].Op >= api.OpNumber) {
				t.Fatal(i, l, number, e)
			}
			want := (&oracle{p, l}).value()
			met[[2]int{l[0].Op, min(want, 1)}]++
			if n := p.value(l...); n != want {
				t.Fatalf("%d: %v of %v is %d instead of %d", i, l, p, n, want)
			}
			checkAsPattern(t, p, l, number, want)
		}
	}
	for op := api.OpNot; op <= api.OpWaits; op++ {
		never := slices.Contains([]int{api.OpNumber, api.OpTiles, api.OpSuits, api.OpWaits}, op)
		if met[[2]int{op, 1}] == 0 || met[[2]int{op, 0}] == 0 && !never {
			t.Error("the node", op, "was not met with both values")
		}
	}
}

// checkAsPattern makes the condition l a pattern, and the minor points if it is a number.
func checkAsPattern(t *testing.T, p place, l []api.Node, number bool, want int) {
	t.Helper()
	h := p.h
	h.Patterns = []api.Pattern{{Name: "none", Cond: []api.Node{{Op: api.OpNot}, {Op: api.OpTrue}}}, {Name: "this", Cond: l}, {Name: "all"}}
	holds := []api.Hold{{Pattern: 1, Times: min(want, 1000)}, {Pattern: 2, Times: 1}}
	if want == 0 {
		holds = holds[1:]
	}
	if got := house.Holding(h, p.x, p.r, p.w); !slices.Equal(got, holds) {
		t.Fatal(got, holds)
	}
	if number {
		h.Minor = l
		if got := house.Minor(h, p.x, p.r, p.w); got != min(want, 1000) {
			t.Fatal(got, want)
		}
	}
}

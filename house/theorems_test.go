package house_test

import (
	"slices"
	"testing"

	"sparrow/api"
	"sparrow/house"
	"sparrow/shape"
	"sparrow/tile"
)

// each calls check with many wins, and the dice for conditions about them.
func each(t *testing.T, seed dice, check func(d *dice, p place)) {
	t.Helper()
	l := places(&seed, 8)
	if len(l) < 200 {
		t.Fatal("only", len(l), "wins")
	}
	for _, p := range l {
		if check(&seed, p); t.Failed() {
			t.Fatal(p)
		}
	}
}

func join(op int, parts ...[]api.Node) []api.Node {
	return append([]api.Node{{Op: op}}, slices.Concat(parts...)...)
}

// TestLogic (P4.6, P4.11): not, and, or, if and least.
func TestLogic(t *testing.T) {
	each(t, 6, func(d *dice, p place) {
		kinds := len(p.x.Bag)
		a, b, m, n := d.truth(kinds, 2), d.truth(kinds, 2), d.number(kinds, 2), d.number(kinds, 2)
		va, vb, vm, vn := p.value(a...), p.value(b...), p.value(m...), p.value(n...)
		not := func(l []api.Node) []api.Node { return join(api.OpNot, l) }
		if va != 0 && va != 1 || p.value(not(not(a))...) != va || p.value(not(a)...) != 1-va {
			t.Error("not of not")
		}
		if p.value(not(join(api.OpAnd, a, b))...) != p.value(join(api.OpOr, not(a), not(b))...) || p.value(not(join(api.OpOr, a, b))...) != p.value(join(api.OpAnd, not(a), not(b))...) {
			t.Error("not of and, not of or")
		}
		if p.value(join(api.OpAnd, a, b)...) != va*vb {
			t.Error("and")
		}
		if p.value(join(api.OpIf, a, m, n)...) != map[int]int{1: vm, 0: vn}[va] {
			t.Error("if")
		}
		for _, least := range []int{0, 1, 2, max(0, vm-1), vm, min(vm+1, 1000000), 1000000} {
			if p.value(append([]api.Node{{Op: api.OpLeast, N: least}}, m...)...) != one(vm >= least) {
				t.Error("least", least)
			}
		}
	})
}

// TestSums (P4.7): sums, products and multiples of numbers.
func TestSums(t *testing.T) {
	each(t, 7, func(d *dice, p place) {
		kinds := len(p.x.Bag)
		m, n := d.number(kinds, 3), d.number(kinds, 3)
		if len(m)+len(n)+1 > api.MaxNodes {
			return
		}
		vm, vn := p.value(m...), p.value(n...)
		if p.value(join(api.OpSum, m, n)...) != min(vm+vn, 1000000) || p.value(join(api.OpTimes, m, n)...) != min(vm*vn, 1000000) {
			t.Error("sum, times")
		}
		step := 1 + d.below(1000)
		up := p.value(append([]api.Node{{Op: api.OpUp, N: step}}, m...)...)
		if up != 1000000 && (up%step != 0 || up < vm || up >= vm+step) || up == 1000000 && vm+step <= up {
			t.Error("up", step, vm, up)
		}
	})
}

// TestMoreKinds (P4.8): with more kinds, more Whats, or without Open, nothing counts less.
func TestMoreKinds(t *testing.T) {
	each(t, 8, func(d *dice, p place) {
		kinds := len(p.x.Bag)
		n := api.Node{Op: api.OpGroups, What: 1 + d.below(31), Open: d.below(3), All: d.luck(), Kinds: d.some(kinds)}
		tiles := api.Node{Op: api.OpTiles, Kinds: n.Kinds}
		some, all := p.value(n), p.value(tiles)
		more, what, none, either := n, n, n, n
		if len(n.Kinds) > 0 {
			more.Kinds = slices.Compact(slices.Sorted(slices.Values(append(slices.Clone(n.Kinds), d.below(kinds), d.below(kinds)))))
		}
		none.Kinds, either.Open = nil, 0
		what.What |= 1 << d.below(5)
		for _, x := range []api.Node{more, what, none, either} {
			if p.value(x) < some {
				t.Error(n, x)
			}
		}
		if p.value(api.Node{Op: api.OpTiles, Kinds: more.Kinds}) < all || p.value(api.Node{Op: api.OpTiles}) < all {
			t.Error(tiles)
		}
		open, closed := either, either
		open.Open, closed.Open = 1, 2
		if p.value(open)+p.value(closed) != p.value(either) {
			t.Error("open and closed groups")
		}
	})
}

// swapped is a win with two suits exchanged.
func swapped(t *testing.T, p place, a, b int) place {
	t.Helper()
	s := p.h.Set
	swap := func(k int) int { return tile.Swap(s, k, a, b) }
	kindsOf := func(l []int) []int {
		var out []int
		for _, k := range l {
			out = append(out, swap(k))
		}
		slices.Sort(out)
		return out
	}
	q := place{h: house.CopyHouse(p.h), x: shape.Copy(p.x), w: p.w}
	for i, f := range p.h.Forms {
		q.h.Forms[i].Kinds = kindsOf(f.Kinds)
	}
	for k, n := range p.x.Bag {
		q.x.Bag[swap(k)] = n
	}
	for i, m := range p.x.Melds {
		q.x.Melds[i].Kind = swap(m.Kind)
	}
	q.w.Kind = swap(p.w.Kind)
	groups, last := slices.Clone(p.r.Groups), p.r.Groups[p.r.Last]
	for i, g := range groups {
		groups[i].Kind = swap(g.Kind)
	}
	last.Kind = swap(last.Kind)
	byKind := func(a, b api.Group) int { return (a.What-b.What)*100 + a.Kind - b.Kind }
	slices.SortFunc(groups[len(p.x.Melds):], byKind)
	for _, r := range shape.Readings(q.h.Set, q.h.Forms, q.x, q.w.Kind) {
		if r.Form == p.r.Form && slices.Equal(r.Groups, groups) && r.Groups[r.Last] == last {
			q.r = r
			return q
		}
	}
	t.Error("no swapped reading")
	return p
}

// TestSwap (P4.9): two suits with equally many ranks may be exchanged.
func TestSwap(t *testing.T) {
	each(t, 9, func(d *dice, p place) {
		suits := p.h.Set.Suits
		if len(suits) < 2 {
			return
		}
		a, b := d.below(len(suits)), d.below(len(suits))
		if suits[a] != suits[b] || a == b {
			return
		}
		q := swapped(t, p, a, b)
		for range 5 {
			l := d.cond(len(p.x.Bag))
			other := slices.Clone(l)
			for i, n := range l {
				other[i].Kinds = nil
				for _, k := range n.Kinds {
					other[i].Kinds = append(other[i].Kinds, tile.Swap(p.h.Set, k, a, b))
				}
				slices.Sort(other[i].Kinds)
			}
			if p.value(l...) != q.value(other...) {
				t.Error(l)
			}
		}
	})
}

// TestWaitsOfWins (P4.10): a hand that wins has waited for the tile with which it wins.
func TestWaitsOfWins(t *testing.T) {
	each(t, 10, func(_ *dice, p place) {
		x := shape.Copy(p.x)
		x.Bag[p.w.Kind]--
		waits := shape.Waits(p.h.Set, p.h.Forms, x)
		if n := p.value(api.Node{Op: api.OpWaits}); n < 1 || n != len(waits) || !slices.Contains(waits, p.w.Kind) {
			t.Error(n, waits)
		}
	})
}

// TestHolds (P4.11): patterns hold as often as their conditions say; without patterns nothing holds.
func TestHolds(t *testing.T) {
	each(t, 11, func(d *dice, p place) {
		if len(house.Holding(p.h, p.x, p.r, p.w)) != 0 {
			t.Error("without patterns")
		}
		var want []api.Hold
		for i, name := range []string{"a", "b", "c", "d", "e"} {
			x := api.Pattern{Name: name, Cond: d.cond(len(p.x.Bag))}
			p.h.Patterns = append(p.h.Patterns, x)
			if n := p.value(x.Cond...); n > 0 {
				want = append(want, api.Hold{Pattern: i, Times: min(n, 1000)})
			}
		}
		if l := house.Holding(p.h, p.x, p.r, p.w); !slices.Equal(l, want) {
			t.Error(l, want)
		}
	})
}

// TestRowsOfTwo (P4.12): a row has rows of two in it; colours with the step 0 are bounded by the longest suit.
func TestRowsOfTwo(t *testing.T) {
	each(t, 12, func(d *dice, p place) {
		what := 1 + d.below(31)
		for m := 1; m <= 3; m++ {
			for n := 2; n <= 4; n++ {
				if many := p.value(row(what, n, m)); many > 0 && p.value(row(what, 2, m)) < many+n-2 {
					t.Error("row", what, n, m)
				}
			}
		}
		for n := 2; n <= 3; n++ {
			if p.value(colours(what, n, 0)) > slices.Max(p.h.Set.Suits) {
				t.Error("colours", what, n)
			}
		}
	})
}

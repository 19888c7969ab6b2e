package dist_test

import (
	"slices"
	"testing"

	"sparrow/api"
	"sparrow/dist"
	"sparrow/shape"
	"sparrow/tile"
)

// hands are hands for a set, at rest and full, near to a win and far from it, each with tiles that were seen.
func hands(s api.Set, n int) (list []api.Hand, seen [][]int) {
	d := dice(11)
	melds := [][]api.Group{nil, d.some(s, 1), d.some(s, min(2, s.Melds))}
	var worlds []world
	if s.Melds < 3 {
		worlds = []world{newWorld(s, formsFor(s), melds[0]), newWorld(s, form(api.FormMelds), melds[1])}
	}
	for i := range n {
		h, gone := d.hand(s, melds[i%3], true)
		if i%4 > 0 && s.Melds > 2 {
			h, gone = d.near(s, d.below(4) == 0, d.below(4))
		} else if w := i % 4 % 3; w < len(worlds) && len(worlds[w].wins) > 0 {
			won := worlds[w].wins[d.below(len(worlds[w].wins))]
			h = d.spoiled(s, api.Hand{Bag: won, Melds: worlds[w].melds}, d.below(3))
			gone = d.seen(room(s, h.Melds, h.Bag))
		}
		if d.below(2) == 0 {
			h = d.rest(h)
		}
		list, seen = append(list, h), append(seen, gone)
	}
	return list, seen
}

// distance is that of a hand, -1 if it has no target.
func distance(s api.Set, forms []api.Form, h api.Hand, seen []int) int {
	n, e := dist.Distance(s, forms, h, seen)
	if e != api.OK {
		return -1
	}
	return n
}

// TestZero (P3.6): a full hand has the distance 0 if it wins; a hand at rest has 1 if a tile that is left makes it win.
func TestZero(t *testing.T) {
	for i, s := range sets() {
		forms := formsFor(s)
		list, seen := hands(s, 80)
		many := map[int]int{}
		for j, h := range list {
			n := distance(s, forms, h, seen[j])
			if shape.Full(s, h) {
				many[min(n, 1)]++
				if (n == 0) != shape.Wins(s, forms, h) {
					t.Error(i, h, seen[j], n)
				}
				continue
			}
			wins := slices.ContainsFunc(shape.Waits(s, forms, h), func(k int) bool { return dist.Left(s, h, seen[j], []int{k}) > 0 })
			if n == 0 || (n == 1) != wins {
				t.Error(i, h, seen[j], n, wins)
			}
			many[2+min(n, 2)]++
		}
		if many[0] < 2 || many[1] < 10 || many[3] < 4 || many[4] < 2 {
			t.Error(i, "too few hands:", many)
		}
	}
}

// TestTheLeast (P3.7): the nearest target has the distance as its lack, and no other target has less.
func TestTheLeast(t *testing.T) {
	d := dice(12)
	for i, s := range sets() {
		forms := formsFor(s)
		list, seen := hands(s, 60)
		others := 0
		for j, h := range list {
			target, e := dist.Nearest(s, forms, h, seen[j])
			if e != api.OK {
				continue
			}
			n := distance(s, forms, h, seen[j])
			if lack, e := dist.Lack(s, forms, h, seen[j], target); lack != n || e != api.OK {
				t.Error(i, h, seen[j], target, lack, e, n)
			}
			for k := range target {
				other := slices.Clone(target)
				x, y := d.below(len(target)), d.below(len(target))
				other[k], other[x], other[y] = other[x], other[y], other[k]
				lack, e := dist.Lack(s, forms, h, seen[j], other)
				if e == api.OK && (lack < n || lack == n && slices.Compare(other, target) < 0) {
					t.Error(i, h, seen[j], target, other, lack, n)
				}
				if e == api.OK && !slices.Equal(other, target) {
					others++
				}
			}
		}
		if others < 10 {
			t.Error(i, "too few other targets:", others)
		}
	}
}

// TestExchanges (P3.8): an exchange changes the distance by at most 1, and some exchange lessens it, as long as one is needed.
func TestExchanges(t *testing.T) {
	for i, s := range sets() {
		forms := formsFor(s)
		if tile.Kinds(s) > 20 {
			forms = slices.Concat(form(api.FormMelds), form(api.FormEach, ends(s)...))
		}
		list, seen := hands(s, 8)
		for j, h := range list {
			n := distance(s, forms, h, seen[j])
			least := n
			for a := range h.Bag {
				for b := range h.Bag {
					x, ok := exchanged(s, h, seen[j], a, b)
					if !ok {
						continue
					}
					m := distance(s, forms, x, seen[j])
					if (m < 0) != (n < 0) || m > n+1 || m < n-1 {
						t.Error(i, h, seen[j], a, b, n, m)
					}
					least = min(least, m)
				}
			}
			needed := n >= 2 || n == 1 && shape.Full(s, h)
			if needed && least != n-1 {
				t.Error(i, h, seen[j], n, least)
			}
		}
	}
}

// exchanged is a hand with a tile of the kind b instead of one of a, and whether there are such tiles.
func exchanged(s api.Set, h api.Hand, seen []int, a, b int) (api.Hand, bool) {
	x := shape.Copy(h)
	if h.Bag[a] == 0 || a == b || dist.Left(s, h, seen, []int{b}) == 0 {
		return x, false
	}
	x.Bag[a]--
	x.Bag[b]++
	return x, true
}

// TestSteps (P3.9): after the steps of the path the bag is the nearest target; kinds are dropped and taken in ascending order.
func TestSteps(t *testing.T) {
	for i, s := range sets() {
		forms := formsFor(s)
		list, seen := hands(s, 60)
		for j, h := range list {
			path, e := dist.Path(s, forms, h, seen[j])
			target, f := dist.Nearest(s, forms, h, seen[j])
			if e != f || len(path) != max(0, distance(s, forms, h, seen[j])) {
				t.Error(i, h, seen[j], path, e, target, f)
			}
			if e != api.OK {
				continue
			}
			bag := slices.Clone(h.Bag)
			for n, step := range path {
				last := n == len(path)-1 && !shape.Full(s, h)
				if (step[0] < 0) != last || step[0] < -1 || n > 0 && (step[1] < path[n-1][1] || !last && step[0] < path[n-1][0]) {
					t.Error(i, h, seen[j], path)
				}
				if step[0] >= 0 {
					bag[step[0]]--
				}
				bag[step[1]]++
			}
			if !slices.Equal(bag, target) {
				t.Error(i, h, seen[j], path, target)
			}
		}
	}
}

// TestMoreForms (P3.10, P3.14): the distance for several forms is the least one for each alone, so that it is not greater with more of them; with less seen it is not greater.
func TestMoreForms(t *testing.T) {
	d := dice(14)
	for i, s := range sets() {
		forms := formsFor(s)
		list, seen := hands(s, 40)
		for j, h := range list {
			least := -1
			for n, f := range forms {
				if m := distance(s, []api.Form{f}, h, seen[j]); m >= 0 && (least < 0 || m < least) {
					least = m
				}
				if m := distance(s, forms[:n+1], h, seen[j]); m != least {
					t.Error(i, h, seen[j], forms[:n+1], m, least)
				}
			}
			before := least
			for less := seen[j]; sum(less) > 0; {
				less = d.drawn(slices.Clone(less), d.below(sum(less)))
				m := distance(s, forms, h, less)
				if before >= 0 && (m < 0 || m > before) {
					t.Error(i, h, seen[j], less, m, before)
				}
				before = m
			}
			if m := distance(s, forms, h, nil); before >= 0 && m != before {
				t.Error(i, h, "nothing seen:", m, before)
			}
		}
	}
}

// turned is a hand, seen tiles and forms after their kinds were turned into others; back says of which kind a run begins that began with another one.
func turned(s api.Set, forms []api.Form, h api.Hand, seen []int, turn func(int) int, back int) ([]api.Form, api.Hand, []int) {
	var list []api.Form
	for _, f := range forms {
		var kinds []int
		for _, k := range f.Kinds {
			kinds = append(kinds, turn(k))
		}
		slices.Sort(kinds)
		list = append(list, api.Form{What: f.What, Kinds: kinds, Again: f.Again})
	}
	x := api.Hand{Bag: bag(s)}
	for k, n := range h.Bag {
		x.Bag[turn(k)] = n
	}
	for _, m := range h.Melds {
		if m.What == api.Chow {
			m.Kind += back
		}
		m.Kind = turn(m.Kind)
		x.Melds = append(x.Melds, m)
	}
	gone := bag(s)
	for k, n := range seen {
		gone[turn(k)] = n
	}
	return list, x, gone
}

// TestSymmetry (P3.11): mirrored hands, and hands with two suits swapped, have the same distance.
func TestSymmetry(t *testing.T) {
	for i, s := range sets() {
		forms := formsFor(s)
		level := len(slices.Compact(slices.Clone(s.Suits))) == 1
		list, seen := hands(s, 40)
		for j, h := range list {
			for _, f := range forms {
				n := distance(s, []api.Form{f}, h, seen[j])
				if f.What != api.FormKnitted || level {
					l, x, gone := turned(s, []api.Form{f}, h, seen[j], func(k int) int { return tile.Mirror(s, k) }, 2)
					if m := distance(s, l, x, gone); m != n {
						t.Error(i, f, h, seen[j], n, "mirrored:", m)
					}
				}
				for a := range s.Suits {
					l, x, gone := turned(s, []api.Form{f}, h, seen[j], func(k int) int { return tile.Swap(s, k, a, 0) }, 0)
					if m := distance(s, l, x, gone); m != n {
						t.Error(i, f, h, seen[j], n, "swapped:", a, m)
					}
				}
			}
		}
	}
}

// TestLeastChoice (P3.12): the least After of a hand that does not win is its distance, and of each improving kind a tile is left.
func TestLeastChoice(t *testing.T) {
	for i, s := range sets() {
		forms := formsFor(s)
		list, seen := hands(s, 30)
		for j, h := range list {
			if !shape.Full(s, h) {
				kinds, _ := dist.Improves(s, forms, h, seen[j])
				for _, k := range kinds {
					if dist.Left(s, h, seen[j], []int{k}) < 1 {
						t.Error(i, h, seen[j], kinds)
					}
				}
				continue
			}
			choices, e := dist.Choices(s, forms, h, seen[j])
			least := -1
			for _, c := range choices {
				if c.Left < len(c.Kinds) || (c.After < 0) != (len(c.Kinds) == 0) {
					t.Error(i, h, seen[j], c)
				}
				if c.After >= 0 && (least < 0 || c.After < least) {
					least = c.After
				}
			}
			if n := distance(s, forms, h, seen[j]); e != api.OK || n != 0 && n != least {
				t.Error(i, h, seen[j], choices, e, n)
			}
			if k, e := dist.Best(s, forms, h, seen[j]); (e == api.OK) != (least >= 0) || e == api.OK && !slices.ContainsFunc(choices, func(c api.Choice) bool { return c.Kind == k && c.After == least }) {
				t.Error(i, h, seen[j], choices, k, e)
			}
		}
	}
}

// TestCallsLessen (P3.13): a call lessens the distance by at most 1.
func TestCallsLessen(t *testing.T) {
	many := 0
	for i, s := range sets() {
		forms := formsFor(s)
		list, seen := hands(s, 30)
		for j, h := range list {
			n := distance(s, forms, h, seen[j])
			for k := range h.Bag {
				calls, _ := dist.Calls(s, forms, h, seen[j], k, true)
				for _, c := range calls {
					many++
					if c.After >= 0 && (n < 0 || c.After < n-1) {
						t.Error(i, h, seen[j], n, c)
					}
				}
			}
		}
	}
	if many < 200 {
		t.Error("too few calls:", many)
	}
}

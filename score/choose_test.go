package score_test

import (
	"math"
	"slices"
	"strconv"
	"testing"

	"sparrow/api"
	"sparrow/house"
	"sparrow/score"
)

// once are holds of patterns, each one once.
func once(l ...int) []api.Hold {
	var holds []api.Hold
	for _, p := range l {
		holds = append(holds, api.Hold{Pattern: p, Times: 1})
	}
	return holds
}

func hold(pattern, times int) []api.Hold { return []api.Hold{{Pattern: pattern, Times: times}} }

// TestChoose (P5.1): the chapter's examples, and what counts in an open hand.
func TestChoose(t *testing.T) {
	for i, c := range []struct {
		holds []api.Hold
		open  bool
		want  []int
		value int
	}{
		{once(0, 1, 2), false, []int{1, 2}, 5}, {once(0, 1, 2), true, []int{1}, 3}, {append(hold(0, 3), once(1)...), false, []int{0}, 6}, {nil, false, nil, 0}, {nil, true, nil, 0},
		{once(0, 2), false, []int{0}, 2}, {once(0, 2), true, []int{0}, 1}, {once(2), true, nil, 0}, {append(hold(0, 3), once(1)...), true, []int{0}, 3}, {append(hold(0, 1), hold(2, 2)...), false, []int{2}, 4}, {hold(1, 1000), false, []int{1}, 3000},
	} {
		l, n, e := score.Choose(three(), c.holds, c.open)
		if !slices.Equal(l, c.want) || n != c.value || e != api.OK {
			t.Error(i, l, n, e)
		}
	}
}

// TestChooseErrors (P5.1, R1, R3): the house's error, then too many holds, then those of each hold.
func TestChooseErrors(t *testing.T) {
	many := make([]api.Pattern, 40)
	for i := range many {
		many[i] = api.Pattern{Name: strconv.Itoa(i), Closed: 1}
	}
	full := listed(small(), many)
	check := func(h api.House, holds []api.Hold, want api.Errno) {
		t.Helper()
		l, n, e := score.Choose(h, holds, false)
		if e != want || e != api.OK && (l != nil || n != 0) {
			t.Errorf("%v: %v %v %v instead of %v", holds, l, n, e, want)
		}
	}
	for _, h := range wrong() {
		check(h, once(7, 7), house.CheckHouse(h))
	}
	check(three(), once(1, 0), api.ErrOrder)
	check(three(), once(1, 1), api.ErrOrder)
	check(three(), once(3), api.ErrRange)
	check(three(), once(-1), api.ErrRange)
	check(three(), once(math.MaxInt), api.ErrRange)
	check(three(), once(math.MinInt), api.ErrRange)
	for _, times := range []int{0, -1, 1001, math.MaxInt, math.MinInt} {
		check(three(), hold(0, times), api.ErrRange)
	}
	check(three(), hold(0, 1000), api.OK)
	check(three(), append(once(1, 0), hold(2, 0)...), api.ErrOrder)
	check(three(), append(hold(1, 0), once(0)...), api.ErrRange)
	check(three(), []api.Hold{{Pattern: 1, Times: 1}, {Pattern: 0, Times: 0}}, api.ErrRange)
	check(three(), []api.Hold{{Pattern: 1, Times: 1}, {Pattern: 1, Times: 1001}}, api.ErrRange)
	check(listed(small(), nil), once(0), api.ErrRange)
	check(three(), make([]api.Hold, 40), api.ErrRange)
	check(three(), make([]api.Hold, 41), api.ErrFull)
	var all []api.Hold
	for i := range 40 {
		all = append(all, api.Hold{Pattern: i, Times: 1})
	}
	check(full, all, api.OK)
	check(full, append(all, api.Hold{Pattern: 40, Times: 1}), api.ErrFull)
}

// named gives patterns names.
func named(l ...api.Pattern) []api.Pattern {
	for i := range l {
		l[i].Name = strconv.Itoa(i)
	}
	return l
}

// TestClashes (P5.1): patterns clash by what they exclude, and by what they imply, whichever of both names the other one.
func TestClashes(t *testing.T) {
	for i, c := range []struct {
		excludes, implies [2][]int
		want              []int
	}{
		{want: []int{0, 1, 2}},
		{excludes: [2][]int{{1}, nil}, want: []int{1, 2}},
		{excludes: [2][]int{nil, {0}}, want: []int{1, 2}},
		{implies: [2][]int{{1}, nil}, want: []int{1, 2}},
		{implies: [2][]int{nil, {0}}, want: []int{1, 2}},
		{excludes: [2][]int{{1}, {0}}, implies: [2][]int{{1}, {0}}, want: []int{1, 2}},
		{excludes: [2][]int{{1, 2}, nil}, want: []int{1, 2}},
		{excludes: [2][]int{{1}, nil}, implies: [2][]int{nil, {2}}, want: []int{0, 2}},
	} {
		l := named(api.Pattern{Closed: 2}, api.Pattern{Closed: 3}, api.Pattern{Closed: 2})
		for p := range 2 {
			l[p].Excludes, l[p].Implies = c.excludes[p], c.implies[p]
		}
		counted, value, e := score.Choose(listed(small(), l), once(0, 1, 2), false)
		want := 0
		for _, p := range c.want {
			want += l[p].Closed
		}
		if !slices.Equal(counted, c.want) || value != want || e != api.OK {
			t.Error(i, counted, value, e)
		}
	}
	// A pattern that does not count in a hand bars no other one there, nor does one that does not hold.
	l := named(api.Pattern{Closed: 9, Excludes: []int{1}}, api.Pattern{Closed: 2, Open: 1})
	for i, c := range []struct {
		holds []api.Hold
		open  bool
		want  []int
	}{{once(0, 1), false, []int{0}}, {once(0, 1), true, []int{1}}, {once(1), false, []int{1}}} {
		if counted, _, _ := score.Choose(listed(small(), l), c.holds, c.open); !slices.Equal(counted, c.want) {
			t.Error(i, counted)
		}
	}
}

// clash reports, by the chapter's words, whether two patterns clash.
func clash(l []api.Pattern, a, b int) bool {
	return slices.Contains(l[a].Excludes, b) || slices.Contains(l[b].Excludes, a) || slices.Contains(l[a].Implies, b) || slices.Contains(l[b].Implies, a)
}

func valueOf(p api.Pattern, open bool) int {
	if open {
		return p.Open
	}
	return p.Closed
}

// bestOf goes through all sets of holds.
func bestOf(l []api.Pattern, holds []api.Hold, open bool) (best []int, most int) {
	for set := range 1 << len(holds) {
		var chosen []int
		value, fits := 0, true
		for i, x := range holds {
			if set>>i&1 == 0 {
				continue
			}
			for _, other := range chosen {
				fits = fits && !clash(l, other, x.Pattern)
			}
			n := valueOf(l[x.Pattern], open)
			fits = fits && n > 0
			chosen = append(chosen, x.Pattern)
			value += x.Times * n
		}
		if fits && (value > most || value == most && slices.Compare(chosen, best) < 0) {
			best, most = chosen, value
		}
	}
	return best, most
}

// TestBestChoice (P5.1, P5.6): what is counted is what comes first of all choices that have the greatest value.
func TestBestChoice(t *testing.T) {
	d, several := dice(11), 0
	for range 4000 {
		h := listed(small(), d.patterns(4))
		holds, open := d.holds(len(h.Patterns), 1+d.below(3)), d.luck()
		counted, value, e := score.Choose(h, holds, open)
		want, most := bestOf(h.Patterns, holds, open)
		if !slices.Equal(counted, want) || value != most || e != api.OK {
			t.Fatal(h.Patterns, holds, open, counted, value, e, want, most)
		}
		if len(counted) > 2 && len(counted)+2 < len(holds) {
			several++
		}
	}
	if several < 200 {
		t.Error("only", several, "choices have something to choose")
	}
}

// TestTies (P5.1): of choices with one value the one is taken whose list is the first, as in dictionaries.
func TestTies(t *testing.T) {
	for i, c := range []struct {
		values []int
		pairs  [][2]int
		want   []int
	}{
		{[]int{1, 1}, [][2]int{{0, 1}}, []int{0}},
		{[]int{2, 1, 1}, [][2]int{{0, 1}, {0, 2}}, []int{0}},
		{[]int{1, 1, 2}, [][2]int{{0, 2}, {1, 2}}, []int{0, 1}},
		{[]int{1, 2, 1}, [][2]int{{0, 1}, {1, 2}}, []int{0, 2}},
		{[]int{1, 1, 1, 1}, [][2]int{{0, 1}, {1, 2}, {2, 3}, {0, 3}}, []int{0, 2}},
		{[]int{1, 1, 1, 1}, [][2]int{{0, 1}, {1, 2}, {2, 3}}, []int{0, 2}},
		{[]int{3, 1, 3, 3, 1}, [][2]int{{0, 2}, {2, 3}, {3, 4}, {0, 3}, {1, 2}}, []int{0, 1, 4}},
		{[]int{2, 2, 2, 2, 2}, [][2]int{{0, 1}, {1, 2}, {2, 3}, {3, 4}, {0, 4}}, []int{0, 2}},
		{[]int{5, 2, 3, 4, 1, 5}, [][2]int{{0, 1}, {0, 2}, {0, 3}, {0, 4}, {0, 5}, {1, 5}, {2, 5}, {3, 5}, {4, 5}}, []int{1, 2, 3, 4}},
	} {
		l := make([]api.Pattern, len(c.values))
		all := make([]int, len(l))
		for p, n := range c.values {
			l[p].Closed, all[p] = n, p
		}
		for _, p := range c.pairs {
			l[p[1]].Excludes = append(l[p[1]].Excludes, p[0])
			slices.Sort(l[p[1]].Excludes)
		}
		counted, _, e := score.Choose(listed(small(), named(l...)), once(all...), false)
		if !slices.Equal(counted, c.want) || e != api.OK {
			t.Error(i, counted, e)
		}
	}
}

// many are forty patterns of one value, where those clash that are linked.
func many(value int, linked func(i, j int) bool) api.House {
	l := make([]api.Pattern, api.MaxPatterns)
	for i := range l {
		l[i].Closed = value
		for j := range i {
			if linked(i, j) && len(l[i].Excludes) < api.MaxOther {
				l[i].Excludes = append(l[i].Excludes, j)
			} else if linked(i, j) {
				l[i].Implies = append(l[i].Implies, j)
			}
		}
	}
	return listed(small(), named(l...))
}

// TestManyPatterns (P1, P5.1, P5.6): choices of forty patterns that clash in many ways are found.
func TestManyPatterns(t *testing.T) {
	every := func(first, step int) []int {
		var l []int
		for p := first; p < api.MaxPatterns; p += step {
			l = append(l, p)
		}
		return l
	}
	board := func(columns int) func(i, j int) bool {
		return func(i, j int) bool { return i-j == columns || i-j == 1 && i%columns > 0 }
	}
	for i, c := range []struct {
		linked func(i, j int) bool
		want   []int
	}{
		{func(i, j int) bool { return false }, every(0, 1)},
		{func(i, j int) bool { return i-j == 1 }, every(0, 2)},
		{func(i, j int) bool { return i-j == 1 || i-j == 39 }, every(0, 2)},
		{func(i, j int) bool { return i-j <= 2 }, every(0, 3)},
		{func(i, j int) bool { return i/3 == j/3 }, every(0, 3)},
		{func(i, j int) bool { return i-j <= 19 }, []int{0, 20}},
		{func(i, j int) bool { return i/8 == j/8 }, every(0, 8)},
		{func(i, j int) bool { return (i-j)%2 == 1 }, every(0, 2)},
		{func(i, j int) bool { return j == 0 }, every(1, 1)},
		{board(4), []int{0, 2, 5, 7, 8, 10, 13, 15, 16, 18, 21, 23, 24, 26, 29, 31, 32, 34, 37, 39}},
		{func(i, j int) bool { return i-j == 3 || i-j == 37 || i-j == 8 || i-j == 32 }, nil},
		{func(i, j int) bool { return (i*j+i+j)%5 == 0 }, nil},
	} {
		for _, value := range []int{1, 1000} {
			h := many(value, c.linked)
			if e := house.CheckHouse(h); e != api.OK {
				t.Fatal(i, e)
			}
			var holds []api.Hold
			for p := range api.MaxPatterns {
				holds = append(holds, api.Hold{Pattern: p, Times: value})
			}
			counted, n, e := score.Choose(h, holds, false)
			if e != api.OK || n != value*value*len(counted) || c.want != nil && !slices.Equal(counted, c.want) {
				t.Error(i, counted, n, e)
			}
			for a := range counted {
				for b := range a {
					if clash(h.Patterns, counted[a], counted[b]) {
						t.Error(i, counted[a], counted[b])
					}
				}
			}
		}
	}
}

// TestMoreToChoose (P5.7): a hold more, a greater value and a clash less never make the value less.
func TestMoreToChoose(t *testing.T) {
	d := dice(12)
	value := func(l []api.Pattern, holds []api.Hold, open bool) int {
		_, n, e := score.Choose(listed(small(), l), holds, open)
		if e != api.OK {
			t.Fatal(e)
		}
		return n
	}
	for range 1500 {
		l := d.patterns(4)
		if len(l) == 0 {
			continue
		}
		holds, open := d.holds(len(l), 3), d.luck()
		n := value(l, holds, open)
		p := d.below(len(l))
		more := append(slices.Clone(holds), api.Hold{Pattern: p, Times: 1 + d.below(3)})
		slices.SortStableFunc(more, func(a, b api.Hold) int { return a.Pattern - b.Pattern })
		more = slices.CompactFunc(more, func(a, b api.Hold) bool { return a.Pattern == b.Pattern })
		greater, fewer := slices.Clone(l), slices.Clone(l)
		greater[p].Closed += d.below(3)
		greater[p].Open += d.below(3)
		fewer[p].Excludes, fewer[p].Implies = fewer[p].Excludes[:len(fewer[p].Excludes)/2], nil
		if value(l, more, open) < n || value(greater, holds, open) < n || value(fewer, holds, open) < n {
			t.Fatal(l, holds, open, p)
		}
	}
}

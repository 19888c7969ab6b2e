package score_test

import (
	"math"
	"reflect"
	"slices"
	"testing"

	"sparrow/api"
	"sparrow/house"
	"sparrow/score"
	"sparrow/shape"
)

// example is a score in which no field has its zero value.
func example() api.Score {
	return api.Score{
		Reading: api.Reading{Form: 1, Groups: []api.Group{open(api.Chow, 3), group(api.Pair, 7)}, Last: 1},
		Holds:   []api.Hold{{Pattern: 1, Times: 2}, {Pattern: 4, Times: 1}}, Counted: []int{1, 4},
		Value: 5, Total: 6, Minor: 30, Points: 2000,
	}
}

// eachChange changes each number, truth and list in v, one after the other, and puts it back.
func eachChange(v reflect.Value, name string, try func(name string)) {
	switch v.Kind() {
	case reflect.Struct:
		for i := range v.NumField() {
			eachChange(v.Field(i), name+"."+v.Type().Field(i).Name, try)
		}
		return
	case reflect.Slice:
		for i := range v.Len() {
			eachChange(v.Index(i), name+"[]", try)
		}
	}
	old := reflect.ValueOf(v.Interface())
	switch v.Kind() {
	case reflect.Int:
		v.SetInt(v.Int() + 1)
	case reflect.Bool:
		v.SetBool(!v.Bool())
	case reflect.Slice:
		v.Set(reflect.Append(v.Slice3(0, v.Len(), v.Len()), reflect.Zero(v.Type().Elem())))
	}
	try(name)
	v.Set(old)
}

// TestSame (P5.5): scores differ if any field of theirs does; nil lists are equal to empty ones.
func TestSame(t *testing.T) {
	s, others := example(), 0
	eachChange(reflect.ValueOf(&s).Elem(), "", func(name string) {
		others++
		if score.Same(s, example()) || score.Same(example(), s) || !score.Same(s, s) {
			t.Error("the change is not seen:", name)
		}
	})
	if others != 21 || !score.Same(s, example()) {
		t.Error(others)
	}
	empty := api.Score{Reading: api.Reading{Groups: []api.Group{}}, Holds: []api.Hold{}, Counted: []int{}}
	if !score.Same(empty, api.Score{}) || !score.Same(api.Score{}, empty) || score.Same(empty, example()) {
		t.Error("nil lists and empty ones")
	}
}

// TestArgumentsStay (R4): no function changes its arguments, and results share no memory with them.
func TestArgumentsStay(t *testing.T) {
	h, w := four(), api.Win{Kind: 2, Self: true, Flags: []int{1, 5}}
	h.Pay.Feeds = []api.Feed{{Kinds: []int{0, 4}, Many: 1}}
	x, rest := api.Hand{Bag: []int{0, 0, 2, 0, 0}, Melds: []api.Group{open(api.Chow, 0)}}, hand(1, 1, 2, 0, 0)
	before, holds, feds := house.CopyHouse(h), once(0, 1, 2), []api.Fed{fed(api.Pung, 0, 3)}
	rows := []api.WinRow{row(1, 2, 480, -1), row(3, 2, 480, 0)}
	score.Choose(h, holds, false)
	l, e := score.All(h, x, w)
	s, _ := score.Best(h, x, w)
	again, _ := score.Best(h, x, w)
	score.Explain(h, x, w)
	score.Worths(h, rest, w)
	score.Shares(h, 0, 1)
	score.Settle(h, 0, 1, 1, rows)
	score.Liable(h, 1, feds)
	same := house.SameHouse(h, before) && shape.Same(x, api.Hand{Bag: []int{0, 0, 2, 0, 0}, Melds: []api.Group{open(api.Chow, 0)}}) && shape.Same(rest, hand(1, 1, 2, 0, 0))
	if !same || !reflect.DeepEqual(w, api.Win{Kind: 2, Self: true, Flags: []int{1, 5}}) || !reflect.DeepEqual(holds, once(0, 1, 2)) || feds[0] != fed(api.Pung, 0, 3) || !slices.Equal(rows, []api.WinRow{row(1, 2, 480, -1), row(3, 2, 480, 0)}) {
		t.Error("arguments changed")
	}
	if e != api.OK || len(l) != 1 || !score.Same(l[0], s) {
		t.Fatal(l, e)
	}
	s.Reading.Groups[0].Kind, s.Counted[0], s.Holds[0].Times = 9, 9, 9
	if x.Melds[0].Kind != 0 || !score.Same(l[0], again) {
		t.Error("results share memory")
	}
}

// TestOneResult (R4): the scores of several readings share no memory with each other.
func TestOneResult(t *testing.T) {
	w := api.Win{Kind: 2, Self: true}
	l, _ := score.All(three(), hand(1, 1, 3, 0), w)
	again, _ := score.All(three(), hand(1, 1, 3, 0), w)
	l[0].Reading.Groups[0].Kind, l[0].Holds[0].Times, l[0].Counted[0] = 9, 9, 9
	if !score.Same(l[1], again[1]) || score.Same(l[0], again[0]) {
		t.Error(l)
	}
}

// TestAnyArguments (P1, R5): no function panics, however great or small the numbers are.
func TestAnyArguments(t *testing.T) {
	for _, n := range []int{math.MinInt, math.MinInt + 1, -7, -1, 0, 1, 2, 3, 4, 5, 9, 34, 40, 63, 64, 1000, 1000001, math.MaxInt - 1, math.MaxInt} {
		noPanic(t, "a function of scores", func() { callAll(n) })
	}
}

// callAll calls all functions, with a number in the place of each other number.
func callAll(n int) {
	l := []int{n, n, 0}
	scale := api.Scale{Base: n, Round: n, Limits: []api.Limit{{From: n, Points: n}, {}}}
	odd := three()
	odd.Patterns = []api.Pattern{{Name: "a", Closed: n, Open: n, Excludes: l, Implies: l}}
	odd.Scale, odd.Least, odd.Pay.Mode = scale, n, n
	limits := three()
	limits.Scale = scale
	least := three()
	least.Least = n
	feeds := four()
	feeds.Pay.Feeds = []api.Feed{{Kinds: []int{n}, Many: n}}
	groups := []api.Fed{{Group: api.Group{What: n, Kind: n, Open: true}, From: n}, {Group: open(api.Pung, n), From: n}, {Group: open(api.Pung, 0), From: n}}
	for _, h := range append(wrong(), three(), four(), odd, limits, least, feeds, fedBy(api.Feed{Kinds: []int{0}, Many: 1})) {
		for _, open := range []bool{false, true} {
			score.Choose(h, []api.Hold{{Pattern: n, Times: n}}, open)
			score.Choose(h, []api.Hold{{Pattern: 0, Times: n}, {Pattern: n, Times: 1}}, open)
			score.Choose(h, make([]api.Hold, 1+n&63), open)
		}
		score.Points(h.Scale, n, n)
		score.Points(h.Scale, 1, n)
		score.Points(h.Scale, n, 1)
		for _, x := range []api.Hand{{}, hand(l...), hand(1, 1, 3, 0), hand(1, 1, 2, 0), hand(n, 1, 1, 1), {Bag: []int{0, 2, 0, 0}, Melds: []api.Group{{What: n, Kind: n}}}, {Bag: []int{0, 2, 0, 0}, Melds: []api.Group{open(api.Pung, n)}}} {
			for _, w := range []api.Win{{}, {Kind: n}, {Kind: 2, Seat: n}, {Kind: 2, Round: n}, {Kind: 2, Flags: l}, {Kind: 2, Bonus: n}} {
				score.All(h, x, w)
				score.Best(h, x, w)
				score.Explain(h, x, w)
				score.Worths(h, x, w)
			}
		}
		score.Shares(h, n, n)
		score.Payment(h, n, n, n, n, n, n)
		for i := range 6 {
			a := [6]int{1, 1, 1, 1, 1, -1}
			a[i] = n
			score.Payment(h, a[0], a[1], a[2], a[3], a[4], a[5])
			score.Settle(h, a[1], a[4], a[0], []api.WinRow{{Who: a[2], From: a[3], Points: a[5], Value: n, Liable: a[5]}})
		}
		score.Settle(h, 0, 0, 0, make([]api.WinRow, 1+n&7))
		score.Liable(h, n, groups)
		score.Liable(h, 0, groups)
	}
	score.Same(api.Score{Value: n}, api.Score{Counted: l})
}

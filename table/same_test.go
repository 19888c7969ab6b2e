package table_test

import (
	"math"
	"reflect"
	"slices"
	"testing"

	"sparrow/api"
	"sparrow/house"
	"sparrow/table"
)

// spoil changes each number, truth and text in v.
func spoil(v reflect.Value) {
	switch v.Kind() {
	case reflect.Struct:
		for i := range v.NumField() {
			spoil(v.Field(i))
		}
	case reflect.Slice:
		for i := range v.Len() {
			spoil(v.Index(i))
		}
		// What is appended to a list must not be seen elsewhere either.
		for _, x := range v.Slice3(0, v.Len(), v.Cap()).Slice(0, v.Cap()).Seq2() {
			spoil(x)
		}
	case reflect.Int:
		v.SetInt(v.Int() + 1)
	case reflect.Bool:
		v.SetBool(!v.Bool())
	case reflect.String:
		v.SetString(v.String() + "x")
	}
}

// spoiled changes everything in what p points to.
func spoiled(p any) { spoil(reflect.ValueOf(p).Elem()) }

// TestResultsShareNothing (R4): what is done to results changes no table, and no other result.
func TestResultsShareNothing(t *testing.T) {
	eachState(t, 40, 3, func(_ *dice, x table.Table, s api.Deal, _ api.Message) {
		h, r := table.House(x), s.Result
		var views []api.View
		var options [][]api.Message
		for player := range s.Players {
			views, options = append(views, table.See(x, player)), append(options, table.Options(x, player))
		}
		copied, state, rules := house.CopyHouse(h), table.State(x), table.House(x)
		result, _ := table.Outcome(x)
		seen, said := table.See(x, 1), table.Options(x, 1)
		spoiled(&state)
		spoiled(&rules)
		spoiled(&result)
		spoiled(&seen)
		spoiled(&said)
		again, _ := table.Outcome(x)
		if !sameDeal(s, table.State(x)) || !house.SameHouse(copied, table.House(x)) || !same(r, again) {
			t.Error("a result shares memory with the table")
		}
		for player := range s.Players {
			if !same(views[player], table.See(x, player)) || !same(options[player], table.Options(x, player)) {
				t.Error("a view or an option shares memory with the table")
			}
		}
	})
}

// TestArgumentsStay (R4): neither houses, walls and messages are changed, nor kept.
func TestArgumentsStay(t *testing.T) {
	h, wall := telling(wide(), api.Play{Chows: true}), layout{hands: [][]int{{0, 3, 6, 9}, {1, 2, 12, 15}, {0, 0, 12, 15}}}.wall(wide(), 0)
	g := begin(t, h, wall, 0)
	before, rules := g.deal(), table.House(g.x)
	spoiled(&h)
	spoiled(&wall)
	if !sameDeal(before, g.deal()) || !house.SameHouse(rules, table.House(g.x)) {
		t.Error("the table keeps its arguments")
	}
	g.ask(at(0, 0))
	tiles := []int{at(2, 0), at(1, 0), 77}[:2]
	l := []api.Message{saying(api.SayChow, 1, 0, 55, tiles...), saying(api.SayPung, 2, 0, 55, at(0, 2), at(0, 1))}
	l[0].Tiles = tiles
	x, n, e := table.Run(g.x, l)
	s := table.State(x)
	if n != -1 || e != api.OK || !slices.Equal(tiles[:3], []int{at(2, 0), at(1, 0), 77}) || !slices.Equal(l[1].Tiles, []int{at(0, 2), at(0, 1)}) || l[0].Tile != 55 {
		t.Error(n, e, l)
	}
	spoiled(&l)
	if !sameDeal(s, table.State(x)) {
		t.Error("the table keeps messages")
	}
	// Two tables that come of one do not share their lists.
	y, _ := table.Do(x, saying(api.SayPass, 3, 0, none))
	z, _ := table.Do(x, saying(api.SayWin, 3, 0, none))
	if sy, sz := table.State(y), table.State(z); sameDeal(sy, sz) || !sameDeal(s, table.State(x)) {
		t.Error(sy, sz)
	}
}

// TestAnyArguments (P1, R5): no function panics, however great or small the numbers are.
func TestAnyArguments(t *testing.T) {
	for _, n := range []int{math.MinInt, math.MinInt + 1, -7, -1, 0, 1, 2, 3, 4, 5, 9, 34, 40, 63, 64, 1000, 1000001, math.MaxInt - 1, math.MaxInt} {
		noPanic(t, "a function of tables", func() { callAll(t, n) })
	}
}

// callAll calls all functions, with a number in the place of each other number.
func callAll(t *testing.T, n int) {
	odd := []api.House{{}, shown(), shown(), shown(), shown()}
	odd[2].Play = api.Play{Heads: n, Last: n, Rob: n, Kongs: n, Nines: n, Time: n, Foul: n, Indicators: n}
	odd[3].Set.Dead, odd[3].Play.Time = n, n
	odd[4].Play.Foul = n
	for _, h := range odd {
		for _, wall := range [][]int{nil, {n}, row(), append([]int{n}, row()[1:]...)} {
			for i := range 4 {
				a := [4]int{}
				a[i] = n
				table.Begin(h, wall, a[0], a[1], a[2])
				table.Begin(h, row(), a[0], a[1], a[2])
			}
		}
	}
	begun := beginAt(t, shown(), row(), 14, 1, 0)
	asked := begun.also().ask(10)
	for _, x := range []table.Table{{}, begun.x, asked.x, asked.also().say(api.SayWin, 0, none).pass(2).x} {
		for kind := 0; kind <= api.SayClock+1; kind++ {
			l := []api.Message{saying(kind, n, 0, 10), saying(kind, 0, n, 10), saying(n, 1, 1, n), saying(kind, 1, 1, n, n, n), saying(kind, 0, 1, n, n), saying(kind, 0, 1, n, n, n), saying(kind, 2, 1, n, n, n, n), saying(kind, 0, 1, n, 8, n), saying(kind, 2, n, n)}
			for _, m := range l {
				table.Do(x, m)
			}
			table.Run(x, l)
		}
		table.Run(x, make([]api.Message, 1+n&4095))
		table.See(x, n)
		table.Options(x, n)
	}
}

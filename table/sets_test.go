package table_test

import (
	"reflect"
	"slices"
	"strconv"
	"testing"

	"sparrow/api"
	"sparrow/house"
	"sparrow/table"
	"sparrow/tile"
)

// none stands for a tile where there is none.
const none = -1

// shown is the house X of the chapter's examples, with the set T of layer 1.
func shown() api.House {
	return api.House{
		Set:   api.Set{Players: 3, Suits: []int{3}, Dragons: 1, Copies: 4, Melds: 1, Dead: 2, Reds: []int{1}},
		Forms: []api.Form{{What: api.FormMelds}}, Least: 1,
		Patterns: []api.Pattern{
			{Name: "plain", Closed: 1, Open: 1},
			{Name: "dragon", Closed: 2, Open: 1, Cond: []api.Node{{Op: api.OpGroups, What: 6, All: true, Kinds: []int{3}}}},
			{Name: "quiet", Closed: 1, Cond: []api.Node{{Op: api.OpAnd}, {Op: api.OpSelf}, {Op: api.OpClosed}}},
		},
		Minor: []api.Node{{Op: api.OpTimes}, {Op: api.OpNumber, N: 10}, {Op: api.OpSum}, {Op: api.OpNumber, N: 1}, {Op: api.OpWaits}},
		Scale: api.Scale{Base: 1, Round: 1}, Pay: api.Pay{Mode: api.PayAlone, Rounds: 1},
		Play: api.Play{Heads: 1, Time: 5, Foul: api.FoulDead},
	}
}

// wide has four players and hands of one meld and a pair: two suits (0 to 8, 9 to 17), four winds (18 to 21), one dragon (22).
func wide() api.Set {
	return api.Set{Players: 4, Suits: []int{9, 9}, Winds: 4, Dragons: 1, Copies: 4, Melds: 1, Dead: 6}
}

// broad has hands of two melds and a pair.
func broad() api.Set {
	s := wide()
	s.Melds = 2
	return s
}

// flag is by how much a win is worth more with a flag in telling houses; what is below the first of these is the bonus.
func flag(numbers ...int) int {
	n := 0
	for _, f := range numbers {
		n += 8 << (f - 1)
	}
	return n
}

// telling is a house in which the value of a win tells its flags and its bonus, and the points the winds of seat and round: 1000 times 4 for a pair of the seat's wind, and 8 for one of the round's.
func telling(s api.Set, p api.Play) api.House {
	h := api.House{
		Set: s, Forms: []api.Form{{What: api.FormMelds}}, Scale: api.Scale{Base: 1, Round: 1},
		Pay: api.Pay{Mode: api.PayAlone, Rounds: 1}, Play: p,
	}
	h.Play.Heads, h.Play.Time, h.Play.Foul = max(1, p.Heads), max(5, p.Time), max(api.FoulDead, p.Foul)
	for f := api.FlagRiichi; f <= api.FlagFirst; f++ {
		h.Patterns = append(h.Patterns, api.Pattern{Name: "flag" + strconv.Itoa(f), Closed: flag(f), Open: flag(f), Cond: []api.Node{{Op: api.OpFlag, N: f}}})
	}
	return h
}

// at returns the tile of a kind with a copy, in sets with four of each.
func at(kind, number int) int { return 4*kind + number }

// of returns some copies of a kind, from 0 on.
func of(kind, many int) []int {
	var l []int
	for c := range many {
		l = append(l, at(kind, c))
	}
	return l
}

// layout says which kinds come where in a wall: the hands by seats; what is drawn; what is taken from the end of the live wall, in this order; the dead wall. Of each kind the copies are taken in the order in which they are listed here; what is not listed, is filled up with the last kinds first.
type layout struct {
	hands             [][]int
	draws, back, dead []int
}

// wall returns such a wall, for the cut 0.
func (l layout) wall(s api.Set, dealer int) []int {
	used := make([]bool, tile.Size(s))
	take := func(kinds []int) []int {
		var tiles []int
		for _, k := range kinds {
			t := 0
			for used[t] || tile.Kind(s, t) != k {
				if t++; t == len(used) {
					panic("there are not so many tiles of the kind " + strconv.Itoa(k))
				}
			}
			used[t] = true
			tiles = append(tiles, t)
		}
		return tiles
	}
	full := 3*s.Melds + 1
	hands := make([][]int, s.Players)
	for i, h := range l.hands {
		hands[i] = take(h)
	}
	live := make([]int, tile.Size(s)-s.Players*full-s.Dead)
	for i := range live {
		live[i] = none
	}
	copy(live, take(l.draws))
	for i, t := range take(l.back) {
		live[len(live)-1-i] = t
	}
	dead := append(take(l.dead), slices.Repeat([]int{none}, s.Dead-len(l.dead))...)
	last := len(used) - 1
	fill := func(t int) int {
		if t != none {
			return t
		}
		for used[last] {
			last--
		}
		used[last] = true
		return last
	}
	return append(inDealingOrder(s, dealer, hands, fill), apply(append(live, dead...), fill)...)
}

func apply(l []int, f func(int) int) []int {
	for i, t := range l {
		l[i] = f(t)
	}
	return l
}

// inDealingOrder lists the tiles of hands in the order in which they are dealt.
func inDealingOrder(s api.Set, dealer int, hands [][]int, fill func(int) int) []int {
	var wall []int
	full := 3*s.Melds + 1
	for has := 0; has < full; {
		step := 1
		if full-has >= 4 {
			step = 4
		}
		for i := range s.Players {
			h := &hands[(dealer+i)%s.Players]
			for range step {
				t := none
				if len(*h) > 0 {
					t, *h = (*h)[0], (*h)[1:]
				}
				wall = append(wall, fill(t))
			}
		}
		has += step
	}
	return wall
}

// row is the wall 0 1 2 .. 15.
func row() []int {
	var l []int
	for i := range 16 {
		l = append(l, i)
	}
	return l
}

// game is a table at which messages are said that have to be accepted, at the table's tick.
type game struct {
	t *testing.T
	x table.Table
}

func begin(t *testing.T, h api.House, wall []int, dealer int) *game {
	t.Helper()
	return beginAt(t, h, wall, 0, dealer, 0)
}

func beginAt(t *testing.T, h api.House, wall []int, cut, dealer, round int) *game {
	t.Helper()
	x, e := table.Begin(h, wall, cut, dealer, round)
	if e != api.OK {
		t.Fatal(e)
	}
	return &game{t, x}
}

// lay begins a deal with a wall that is laid, with the dealer 0.
func lay(t *testing.T, h api.House, l layout) *game {
	t.Helper()
	return begin(t, h, l.wall(h.Set, 0), 0)
}

func (g *game) deal() api.Deal { return table.State(g.x) }

func (g *game) player(seat int) api.Player { return g.deal().Players[seat] }

// message is what a seat says at the table's tick.
func (g *game) message(kind, who, t int, tiles ...int) api.Message {
	return api.Message{Kind: kind, Who: who, Tick: g.deal().Tick, Tile: t, Tiles: tiles}
}

func (g *game) say(kind, who, t int, tiles ...int) *game {
	g.t.Helper()
	x, e := table.Do(g.x, g.message(kind, who, t, tiles...))
	if e != api.OK {
		g.t.Fatal(kind, who, t, tiles, e)
	}
	g.x = x
	return g
}

func (g *game) pass(seats ...int) *game {
	g.t.Helper()
	for _, seat := range seats {
		g.say(api.SayPass, seat, none)
	}
	return g
}

// quiet lets all others pass who are waited for.
func (g *game) quiet() *game {
	g.t.Helper()
	for seat := range g.deal().Players {
		d := g.deal()
		spoke := slices.ContainsFunc(d.Said, func(m api.Message) bool { return m.Who == seat })
		if d.Phase == api.PhaseClaims && seat != d.Turn && !d.Players[seat].Dead && !spoke {
			g.pass(seat)
		}
	}
	return g
}

// drop lets the seat whose turn it is discard a tile, and ask does so, too, but does not wait for the others.
func (g *game) drop(t int) *game {
	g.t.Helper()
	return g.ask(t).quiet()
}

func (g *game) ask(t int) *game {
	g.t.Helper()
	return g.say(api.SayDiscard, g.deal().Turn, t)
}

// goOn lets each seat discard what it draws, so many times.
func (g *game) goOn(times int) *game {
	g.t.Helper()
	for range times {
		g.drop(g.deal().Drawn)
	}
	return g
}

// also returns a game that goes on from here, without changing this one.
func (g *game) also() *game { return &game{g.t, g.x} }

// refuses checks the error of a message at the table's tick, and that the table stays.
func (g *game) refuses(want api.Errno, kind, who, t int, tiles ...int) *game {
	g.t.Helper()
	return g.refusesMessage(want, g.message(kind, who, t, tiles...))
}

func (g *game) refusesMessage(want api.Errno, m api.Message) *game {
	g.t.Helper()
	before := g.deal()
	x, e := table.Do(g.x, m)
	if e != want {
		g.t.Error(m, "has the error", e, "not", want)
	}
	if e != api.OK && !sameDeal(before, table.State(x)) {
		g.t.Error(m, "is refused, and changes the table")
	}
	return g
}

// over checks the result of the deal.
func (g *game) over(want api.Result) {
	g.t.Helper()
	r, ok := table.Outcome(g.x)
	if !ok || !same(r, want) || !table.Over(g.x) {
		g.t.Error(r, "not", want)
	}
}

// wins checks that the deal is won just so; the Points do not matter where they are 0.
func (g *game) wins(rows ...api.WinRow) {
	g.t.Helper()
	r, ok := table.Outcome(g.x)
	for i := range min(len(rows), len(r.Wins)) {
		if rows[i].Points == 0 {
			rows[i].Points = r.Wins[i].Points
		}
	}
	if !ok || r.What != api.ResultWin || !slices.Equal(r.Wins, rows) {
		g.t.Error(r, "not", rows)
	}
}

// options returns what a player can say, without ticks.
func (g *game) options(player int) []api.Message {
	l := table.Options(g.x, player)
	for i := range l {
		l[i].Tick = 0
	}
	return l
}

// kinds returns which kinds of messages a player can say.
func (g *game) kinds(player int) []int {
	var l []int
	for _, m := range table.Options(g.x, player) {
		l = append(l, m.Kind)
	}
	return slices.Compact(l)
}

// same reports whether two values are equal; nil lists are equal to empty ones.
func same(a, b any) bool { return equal(reflect.ValueOf(a), reflect.ValueOf(b)) }

func sameDeal(a, b api.Deal) bool { return same(a, b) }

func equal(a, b reflect.Value) bool {
	switch a.Kind() {
	case reflect.Struct:
		for i := range a.NumField() {
			if !equal(a.Field(i), b.Field(i)) {
				return false
			}
		}
		return true
	case reflect.Slice:
		if a.Len() != b.Len() {
			return false
		}
		for i := range a.Len() {
			if !equal(a.Index(i), b.Index(i)) {
				return false
			}
		}
		return true
	}
	return a.Interface() == b.Interface()
}

// dice throws the same numbers in each run of the tests.
type dice uint64

func (d *dice) below(n int) int {
	*d = *d*2862933555777941757 + 3037000493
	return int(uint64(*d)>>20) % n
}

func (d *dice) luck() bool { return d.below(2) == 0 }

// once is true once in so many times.
func (d *dice) once(in int) bool { return d.below(in) == 0 }

// play is any rules of play.
func (d *dice) play(s api.Set) api.Play {
	return api.Play{
		Chows: !d.once(3), Heads: 1 + d.below(3), Riichi: !d.once(3), Last: d.below(3), Furiten: d.luck(), Rob: d.below(3),
		Kongs: d.below(2) * (1 + d.below(3)), Nines: d.below(2) * (1 + d.below(4)), Winds: d.luck(), Riichis: d.luck(), Swap: d.luck(),
		Time: 1 + d.below(5), Foul: 1 + d.below(2), Indicators: d.below(1 + min(3, s.Dead/2)), Show: d.luck(), Under: d.luck(),
	}
}

// house is a house with any rules of play, and a pattern or two.
func (d *dice) house(s api.Set) api.House {
	h := telling(s, d.play(s))
	h.Least = d.below(2)
	if h.Least == 1 {
		h.Patterns = append(h.Patterns, api.Pattern{Name: "closed", Closed: 1, Cond: []api.Node{{Op: api.OpClosed}}}, api.Pattern{Name: "pungs", Closed: 2, Open: 2, Cond: []api.Node{{Op: api.OpGroups, What: 6}}})
	}
	if s.Melds%2 == 0 {
		h.Forms = append(h.Forms, api.Form{What: api.FormPairs})
	}
	return h
}

// sets are those in which deals are played.
func sets() []api.Set {
	tiny := shown().Set
	five := shown().Set
	five.Dragons, five.Flowers, five.Reds = 2, 4, []int{0, 4}
	winds := api.Set{Players: 4, Suits: []int{3}, Winds: 2, Copies: 4, Melds: 1, Dead: 2, Flowers: 3}
	short := api.Set{Players: 3, Suits: []int{3}, Dragons: 1, Copies: 4, Melds: 1, Dead: 0, Flowers: 2}
	level := api.Set{Players: 3, Suits: []int{3, 3}, Dragons: 3, Copies: 4, Melds: 2, Dead: 4, Reds: []int{2, 5}}
	pungs := api.Set{Players: 3, Suits: []int{3}, Dragons: 3, Copies: 4, Melds: 1, Dead: 3}
	great := api.Set{Players: 4, Suits: []int{9, 9, 9}, Winds: 4, Dragons: 3, Flowers: 8, Copies: 4, Melds: 4, Dead: 14, Reds: []int{4, 13, 22}}
	return []api.Set{tiny, five, winds, short, level, pungs, wide(), great}
}

// deal is a deal that can be played.
type deal struct {
	h                  api.House
	wall               []int
	cut, dealer, round int
}

func (d *dice) deal(s api.Set) deal {
	n := tile.Size(s)
	wall := tile.Wall(s, uint64(d.below(1<<30)))
	if d.luck() {
		wall = d.ordered(n)
	}
	return deal{d.house(s), wall, d.below(n), d.below(s.Players), d.below(s.Players)}
}

// ordered is a wall in which equal tiles mostly stand together.
func (d *dice) ordered(n int) []int {
	wall := make([]int, n)
	for i := range wall {
		wall[i] = i
	}
	for range d.below(n) {
		i, j := d.below(n), d.below(n)
		wall[i], wall[j] = wall[j], wall[i]
	}
	return wall
}

func (x deal) begin(t *testing.T) table.Table {
	t.Helper()
	return beginAt(t, x.h, x.wall, x.cut, x.dealer, x.round).x
}

func TestHousesAreValid(t *testing.T) {
	d := dice(1)
	houses := []api.House{shown(), telling(wide(), api.Play{}), telling(broad(), api.Play{Rob: 2})}
	for range 20 {
		for _, s := range sets() {
			houses = append(houses, d.house(s))
		}
	}
	for i, h := range houses {
		if e := house.CheckHouse(h); e != api.OK {
			t.Error(i, e, h)
		}
	}
}

func noPanic(t *testing.T, name string, call func()) {
	t.Helper()
	defer func() {
		if p := recover(); p != nil {
			t.Errorf("%s panics: %v", name, p)
		}
	}()
	call()
}

package evening_test

import (
	"math"
	"reflect"
	"slices"
	"testing"

	"sparrow/api"
	"sparrow/evening"
)

// eachChange changes each number, truth, text and list in v, one after the other, and puts it back.
func eachChange(v reflect.Value, name string, try func(name string)) {
	switch v.Kind() {
	case reflect.Struct:
		for i := range v.NumField() {
			eachChange(v.Field(i), name+"."+v.Type().Field(i).Name, try)
		}
		return
	case reflect.Slice:
		for i := range v.Len() {
			eachChange(v.Index(i), name+"[]", try)
		}
	}
	old := reflect.ValueOf(v.Interface())
	switch v.Kind() {
	case reflect.Int:
		v.SetInt(v.Int() + 1)
	case reflect.Bool:
		v.SetBool(!v.Bool())
	case reflect.String:
		v.SetString(v.String() + "x")
	case reflect.Slice:
		v.Set(reflect.Append(v.Slice3(0, v.Len(), v.Len()), reflect.Zero(v.Type().Elem())))
	}
	try(name)
	v.Set(old)
}

// full is an evening in which no list is empty.
func full() api.Evening {
	h := four()
	h.Forms[0].Kinds = []int{1}
	h.Patterns[0] = api.Pattern{Name: "a", Cond: []api.Node{{Op: api.OpTiles, Kinds: []int{2}}}, Excludes: []int{1}, Implies: []int{2}}
	h.Minor = []api.Node{{Op: api.OpNumber, Kinds: []int{3}}}
	h.Pay.Feeds = []api.Feed{{Kinds: []int{0, 4}, Many: 1}}
	return api.Evening{House: h, Points: []int{1, 2, 3, 4}, Dealer: 1, Round: 2, Counters: 3, Sticks: 4, Deals: 5}
}

// TestSame (P7.6): evenings differ if anything of theirs does; nil lists are equal to empty ones.
func TestSame(t *testing.T) {
	e, others := full(), 0
	eachChange(reflect.ValueOf(&e).Elem(), "", func(name string) {
		others++
		if evening.Same(e, full()) || evening.Same(full(), e) || !evening.Same(e, e) {
			t.Error("the change is not seen:", name)
		}
	})
	if others < 100 || !evening.Same(e, full()) {
		t.Error(others)
	}
	empty := api.Evening{Points: []int{}, House: api.House{Forms: []api.Form{}, Patterns: []api.Pattern{}}}
	if !evening.Same(empty, api.Evening{}) || !evening.Same(api.Evening{}, empty) || evening.Same(empty, full()) {
		t.Error("nil lists and empty ones")
	}
}

// TestCopy (P7.6): a copy is equal, and shares no memory.
func TestCopy(t *testing.T) {
	e := full()
	x := evening.Copy(e)
	if !evening.Same(x, full()) {
		t.Error(x)
	}
	eachChange(reflect.ValueOf(&e).Elem(), "", func(name string) {
		if !evening.Same(x, full()) {
			t.Error("the copy changes with its original:", name)
		}
	})
	buffer := []int{1, 2}
	cut := evening.Copy(api.Evening{Points: buffer[:0]})
	if cut.Points = append(cut.Points, 9); buffer[0] != 1 {
		t.Error("a copy of an empty list keeps its memory")
	}
	if !evening.Same(evening.Copy(api.Evening{}), api.Evening{}) {
		t.Error("the zero evening")
	}
}

// sample are results of all kinds.
func sample() []api.Result {
	return []api.Result{laid(win(row(3, 2, 480), row(0, 2, 480)), 1), laid(draw(0, 2), 2), laid(abort(), 3), foul(0, 1)}
}

// TestArgumentsStay (R4): no function changes its arguments, and results share no memory with them, nor with each other.
func TestArgumentsStay(t *testing.T) {
	e, l := calm(25000, 24000, 25000, 25000), sample()
	e.Sticks, e.House.Pay.Rounds = 1, 9
	before := evening.Copy(e)
	var results []api.Evening
	for _, r := range l {
		evening.CheckResult(e, r)
		evening.Changes(e, r)
		results = append(results, after(t, e, r))
	}
	begun := begin(t, e.House)
	played, _, f := evening.Play(e.House, l)
	first, second := evening.Standings(e), evening.Standings(e)
	evening.Needs(e, 1, 0)
	if f != api.OK || !evening.Same(e, before) || !reflect.DeepEqual(l, sample()) {
		t.Error("arguments changed", f)
	}
	for i, x := range append(results, begun, played) {
		want := evening.Copy(x)
		eachChange(reflect.ValueOf(&e).Elem(), "", func(name string) {
			if !evening.Same(x, want) {
				t.Error(i, "it shares memory with an argument:", name)
			}
		})
		eachChange(reflect.ValueOf(&x).Elem(), "", func(name string) {
			if !evening.Same(e, before) {
				t.Error(i, "an argument shares memory with it:", name)
			}
		})
	}
	if first[0].Points++; first[0] == second[0] {
		t.Error("standings share memory")
	}
}

// TestRest (R3): fields to which the chapter gives no meaning have their zero values, and lists have their lengths.
func TestRest(t *testing.T) {
	eachResult(t, 4, func(_ *dice, e api.Evening, r api.Result) {
		n, x := len(e.Points), after(t, e, r)
		l, needs := evening.Standings(e), []api.Need(nil)
		if !evening.Over(x) {
			needs, _ = evening.Needs(x, 0, 0)
		}
		if len(x.Points) != n || len(l) != n || len(needs) > 0 && len(needs) != n || len(changes(t, e, r)) != n {
			t.Error(x, l, needs)
		}
	})
}

// TestAnyArguments (P1, R5): no function panics, however great or small the numbers are.
func TestAnyArguments(t *testing.T) {
	for _, n := range []int{math.MinInt, math.MinInt + 1, -1 << 40, -7, -1, 0, 1, 2, 3, 4, 5, 9, 40, 100, 1000, 4000, 1000001, 1 << 40, math.MaxInt - 1, math.MaxInt} {
		noPanic(t, "a function of evenings", func() { callAll(n) })
	}
}

// callAll calls all functions, with a number in the place of each other number.
func callAll(n int) {
	l := []int{n, n, 0}
	evenings := []api.Evening{{}, {Points: l}, at(n, n, n, n), at(n, -n, 50000, 50000), full()}
	for i := range 5 {
		e := at(25000, 25000, 25000, 25000)
		*[]*int{&e.Dealer, &e.Round, &e.Counters, &e.Sticks, &e.Deals}[i] = n
		evenings = append(evenings, e)
	}
	for i := range 12 {
		e := at(25000, 25000, 25000, 25000)
		s, p := &e.House.Set, &e.House.Pay
		*[]*int{&s.Players, &s.Copies, &e.House.Least, &e.House.Scale.Round, &p.Mode, &p.Stick, &p.Pool, &p.Foul, &p.Start, &p.Rounds, &p.Stay, &p.Counter}[i] = n
		evenings = append(evenings, e)
	}
	results := append(sample(), api.Result{What: n}, draw(l...), foul(l...), foul(n), laid(abort(), l...), laid(abort(), n), win(make([]api.WinRow, n&7)...))
	for i := range 5 {
		rows := []api.WinRow{row(3, 2, 480), row(0, 2, 480)}
		w := &rows[1]
		*[]*int{&w.Who, &w.From, &w.Value, &w.Points, &w.Liable}[i] = n
		results = append(results, win(rows...), win(rows[1]), laid(win(rows[1], rows[0]), n))
	}
	for _, e := range evenings {
		evening.Check(e)
		evening.Over(e)
		evening.Wind(e, n)
		evening.RoundWind(e)
		evening.Standings(e)
		evening.Final(e)
		evening.Needs(e, n, 0)
		evening.Needs(e, 0, n)
		evening.Needs(e, 0, 0)
		evening.Same(e, evening.Copy(e))
		for _, r := range results {
			evening.CheckResult(e, r)
			evening.Changes(e, r)
			evening.Apply(e, r)
		}
		evening.Begin(e.House)
		evening.Play(e.House, results)
		evening.Play(e.House, slices.Repeat([]api.Result{foul(0)}, 20))
	}
}

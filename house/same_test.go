package house_test

import (
	"reflect"
	"testing"

	"sparrow/api"
	"sparrow/house"
)

// eachChange changes each number, truth, name and list in v, one after the other, and puts it back.
func eachChange(v reflect.Value, name string, try func(name string)) {
	switch v.Kind() {
	case reflect.Struct:
		for i := range v.NumField() {
			eachChange(v.Field(i), name+"."+v.Type().Field(i).Name, try)
		}
		return
	case reflect.Slice:
		for i := range v.Len() {
			eachChange(v.Index(i), name+"[]", try)
		}
	}
	old := reflect.ValueOf(v.Interface())
	switch v.Kind() {
	case reflect.Int:
		v.SetInt(v.Int() + 1)
	case reflect.Bool:
		v.SetBool(!v.Bool())
	case reflect.String:
		v.SetString(v.String() + "-")
	case reflect.Slice:
		v.Set(reflect.Append(v.Slice3(0, v.Len(), v.Len()), reflect.Zero(v.Type().Elem())))
	}
	try(name)
	v.Set(old)
}

// TestSameHouse (P4.4): houses, valid or not, differ if any field of theirs does.
func TestSameHouse(t *testing.T) {
	h, others := full(), 0
	eachChange(reflect.ValueOf(&h).Elem(), "", func(name string) {
		others++
		if house.SameHouse(h, full()) || house.SameHouse(full(), h) || !house.SameHouse(h, h) {
			t.Error("the change is not seen:", name)
		}
	})
	if others < 120 || !house.SameHouse(h, full()) {
		t.Error(others)
	}
	for _, h := range []api.House{{}, shown(), full(), {Least: -5, Patterns: make([]api.Pattern, 100)}} {
		if !house.SameHouse(h, h) || !house.SameHouse(h, house.CopyHouse(h)) || house.SameHouse(h, api.House{Minor: make([]api.Node, 3)}) {
			t.Error(h)
		}
	}
}

// TestNilAndEmpty (P4.4, R4): nil lists are equal to empty ones, wherever they are.
func TestNilAndEmpty(t *testing.T) {
	a := api.House{Forms: []api.Form{{}}, Patterns: []api.Pattern{{Cond: []api.Node{{}}}}, Minor: []api.Node{{}}, Pay: api.Pay{Feeds: []api.Feed{{}}}}
	n := []int{}
	b := api.House{
		Set: api.Set{Suits: n, Reds: n}, Forms: []api.Form{{Kinds: n}}, Patterns: []api.Pattern{{Cond: []api.Node{{Kinds: n}}, Excludes: n, Implies: n}},
		Minor: []api.Node{{Kinds: n}}, Scale: api.Scale{Limits: []api.Limit{}}, Pay: api.Pay{Places: n, Feeds: []api.Feed{{Kinds: n}}},
	}
	empty := api.House{Forms: []api.Form{}, Patterns: []api.Pattern{}, Minor: []api.Node{}, Pay: api.Pay{Feeds: []api.Feed{}}}
	if !house.SameHouse(a, b) || !house.SameHouse(b, a) || !house.SameHouse(house.CopyHouse(b), a) || !house.SameHouse(api.House{}, empty) || !house.SameHouse(house.CopyHouse(empty), api.House{}) {
		t.Error("nil lists and empty ones")
	}
	x, y := shown(), shown()
	x.Patterns[0].Cond, x.Set.Winds, y.Patterns[0].Excludes = []api.Node{}, 0, []int{}
	one, e1 := house.Text(x)
	two, e2 := house.Text(y)
	if e1 != api.OK || e2 != api.OK || one != two {
		t.Error(one, two)
	}
}

// TestCopyHouse (P4.4, R4): neither a copy nor the house changes with the other.
func TestCopyHouse(t *testing.T) {
	h := full()
	c := house.CopyHouse(h)
	eachChange(reflect.ValueOf(&c).Elem(), "", func(name string) {
		if !house.SameHouse(h, full()) {
			t.Error("the house changes with its copy:", name)
		}
	})
	eachChange(reflect.ValueOf(&h).Elem(), "", func(name string) {
		if !house.SameHouse(c, full()) {
			t.Error("the copy changes with its house:", name)
		}
	})
	// Lists that are empty, with room behind them, are not shared either.
	room := []int{7, 7, 7}
	forms, feeds, nodes := []api.Form{{What: 7}}, []api.Feed{{Many: 7}}, []api.Node{{Op: 7}}
	x := house.CopyHouse(api.House{Set: api.Set{Suits: room[:0], Reds: room[:1]}, Forms: forms[:0], Minor: nodes[:0], Pay: api.Pay{Places: room[:1], Feeds: feeds[:0]}, Scale: api.Scale{Limits: make([]api.Limit, 0, 2)}})
	_, _, _ = append(x.Set.Suits, 1), append(x.Set.Reds, 1), append(x.Pay.Places, 1)
	_, _, _ = append(x.Forms, api.Form{}), append(x.Minor, api.Node{}), append(x.Pay.Feeds, api.Feed{})
	if room[0] != 7 || room[1] != 7 || forms[0].What != 7 || feeds[0].Many != 7 || nodes[0].Op != 7 {
		t.Error("an empty copy shares memory")
	}
}

// TestArgumentsStay (R4): no function changes its arguments.
func TestArgumentsStay(t *testing.T) {
	h, x, w := full(), api.Hand{Bag: bag(full().Set, 0, 1, 2, 3, 3, 3, 9, 9, 9, 27, 27, 27, 30, 30)}, api.Win{Kind: 3, Flags: []int{1, 5}}
	r := api.Reading{Groups: []api.Group{group(1, 0), group(2, 3), group(2, 9), group(2, 27), group(4, 30)}, Last: 1}
	if house.Value(h, nil, x, r, w) != 1 {
		t.Fatal("no win")
	}
	house.CheckHouse(h)
	house.CheckWin(h, x, w)
	house.Value(h, h.Patterns[0].Cond, x, r, w)
	house.Value(h, []api.Node{{Op: api.OpWaits}}, x, r, w)
	house.Holding(h, x, r, w)
	house.Minor(h, x, r, w)
	if text, e := house.Text(h); e != api.OK || text == "" {
		t.Error(e)
	}
	same := reflect.DeepEqual(x.Bag, bag(h.Set, 0, 1, 2, 3, 3, 3, 9, 9, 9, 27, 27, 27, 30, 30)) && reflect.DeepEqual(w.Flags, []int{1, 5}) && r.Groups[1] == group(2, 3)
	if !same || !house.SameHouse(h, full()) {
		t.Error("arguments changed")
	}
}

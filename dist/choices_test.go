package dist_test

import (
	"slices"
	"testing"

	"sparrow/api"
	"sparrow/dist"
	"sparrow/shape"
)

// TestChoices (P3.4): the chapter's example, a hand without targets, and a choice after which only some discards leave a target.
func TestChoices(t *testing.T) {
	for i, c := range []struct {
		h    api.Hand
		seen []int
		want []api.Choice
	}{
		{tiny(2, 2, 0, 1), nil, []api.Choice{{Kind: 0, After: 2, Kinds: []int{0, 1, 2, 3}, Left: 11}, {Kind: 1, After: 2, Kinds: []int{0, 1, 2, 3}, Left: 11}, {Kind: 3, After: 1, Kinds: []int{0, 1}, Left: 4}}},
		{tiny(1, 0, 0, 4), []int{3, 4, 4, 0}, []api.Choice{{Kind: 0, After: -1}, {Kind: 3, After: -1}}}, {tiny(0, 0, 1, 4), []int{4, 4, 2, 0}, []api.Choice{{Kind: 2, After: -1}, {Kind: 3, After: 1, Kinds: []int{2}, Left: 1}}},
		{tiny(1, 1, 0, 0, open(api.Chow, 0)), []int{1, 0, 0, 0}, []api.Choice{{Kind: 0, After: 1, Kinds: []int{1}, Left: 2}, {Kind: 1, After: 1, Kinds: []int{0}, Left: 1}}}, {tiny(2, 0, 0, 0, open(api.Chow, 0)), []int{1, 0, 0, 0}, []api.Choice{{Kind: 0, After: 2, Kinds: []int{1, 2, 3}, Left: 10}}},
	} {
		if l, e := dist.Choices(small(), form(api.FormMelds), c.h, c.seen); e != api.OK || !slices.EqualFunc(l, c.want, sameChoice) {
			t.Error(i, l, e)
		}
	}
	if l, e := dist.Choices(small(), form(api.FormMelds), tiny(1, 1, 1, 1), nil); l != nil || e != api.ErrState {
		t.Error(l, e)
	}
	if l, e := dist.Choices(small(), form(api.FormMelds), tiny(0, 0, 0, 4), []int{4, 4, 4, 0}); l != nil || e != api.ErrState {
		t.Error("a hand at rest without targets:", l, e)
	}
}

// TestBest (P3.4): the least After, then the greatest Left, then the least Kind; and the errors.
func TestBest(t *testing.T) {
	chow := open(api.Chow, 0)
	for i, c := range []struct {
		h    api.Hand
		seen []int
		kind int
		want api.Errno
	}{
		{tiny(2, 2, 0, 1), nil, 3, api.OK}, {tiny(1, 1, 0, 0, chow), nil, 0, api.OK}, {tiny(1, 1, 0, 0, chow), []int{0, 1, 0, 0}, 1, api.OK}, {tiny(1, 1, 0, 0, chow), []int{1, 0, 0, 0}, 0, api.OK}, {tiny(0, 1, 0, 1, chow), nil, 1, api.OK}, {tiny(0, 1, 0, 1, chow), []int{0, 0, 0, 2}, 3, api.OK}, {tiny(0, 1, 0, 1, chow), []int{0, 0, 0, 1}, 1, api.OK},
		{tiny(0, 0, 1, 4), []int{4, 4, 2, 0}, 3, api.OK}, {tiny(1, 0, 0, 4), []int{3, 4, 4, 0}, 0, api.ErrMissing}, {tiny(1, 1, 1, 1), nil, 0, api.ErrState}, {tiny(0, 0, 0, 4), []int{4, 4, 4, 0}, 0, api.ErrState},
	} {
		if k, e := dist.Best(small(), form(api.FormMelds), c.h, c.seen); k != c.kind || e != c.want {
			t.Error(i, k, e)
		}
	}
}

// TestCalls (P3.5): the chapter's examples, hands in which a chow could be called in three ways, and the errors in their order.
func TestCalls(t *testing.T) {
	melds := form(api.FormMelds)
	call := func(what, kind, after int) api.Call { return api.Call{Group: open(what, kind), After: after} }
	for i, c := range []struct {
		h      api.Hand
		seen   []int
		kind   int
		before bool
		want   []api.Call
		e      api.Errno
	}{
		{tiny(2, 1, 1, 0), nil, 0, true, []api.Call{call(1, 0, 0), call(2, 0, 1)}, api.OK}, {tiny(2, 1, 1, 0), nil, 0, false, []api.Call{call(2, 0, 1)}, api.OK}, {tiny(2, 1, 1, 0), nil, 1, true, []api.Call{call(1, 0, 1)}, api.OK}, {tiny(2, 1, 1, 0), nil, 1, false, nil, api.OK}, {tiny(2, 1, 1, 0), nil, 3, true, nil, api.OK},
		{tiny(3, 0, 0, 1), nil, 0, true, []api.Call{call(2, 0, 1), call(3, 0, 1)}, api.OK}, {tiny(3, 0, 0, 1), nil, 0, false, []api.Call{call(2, 0, 1), call(3, 0, 1)}, api.OK}, {tiny(2, 0, 0, 2), []int{0, 4, 4, 1}, 0, true, []api.Call{call(2, 0, 0)}, api.OK}, {tiny(3, 0, 0, 1), []int{0, 4, 4, 3}, 0, true, []api.Call{call(2, 0, -1), call(3, 0, -1)}, api.OK},
		{tiny(1, 0, 0, 0, open(api.Chow, 0)), nil, 1, true, nil, api.OK}, {tiny(1, 0, 0, 0, open(api.Chow, 0)), []int{2, 0, 0, 0}, 0, true, nil, api.ErrFull}, {tiny(1, 0, 0, 0, open(api.Chow, 0)), nil, 4, true, nil, api.ErrRange},
		{tiny(2, 2, 0, 1), nil, 9, true, nil, api.ErrState}, {tiny(2, 2, 0, 1), nil, 0, true, nil, api.ErrState}, {tiny(2, 1, 1, 0), nil, 4, true, nil, api.ErrRange}, {tiny(2, 1, 1, 0), nil, -1, true, nil, api.ErrRange}, {tiny(2, 1, 1, 0), []int{2, 0, 0, 0}, 0, true, nil, api.ErrFull}, {tiny(4, 0, 0, 0), nil, 0, true, nil, api.ErrFull}, {tiny(2, 1, 1, 0), []int{1, 0, 0, 0}, 0, false, []api.Call{call(2, 0, 1)}, api.OK},
	} {
		if l, e := dist.Calls(small(), melds, c.h, c.seen, c.kind, c.before); !slices.Equal(l, c.want) || e != c.e {
			t.Error(i, l, e)
		}
	}
	h := of([]int{4, 5, 6, 6, 6, 7, 8, 15, 16, 17, 33, 33, 33})
	want := []api.Call{call(1, 4, 0), call(1, 5, 1), call(1, 6, 0), call(2, 6, 1), call(3, 6, 2)}
	if l, e := dist.Calls(big(), melds, h, nil, 6, true); !slices.Equal(l, want) || e != api.OK {
		t.Error(l, e)
	}
	if l, e := dist.Calls(big(), form(api.FormPairs), of([]int{0, 0, 3, 3, 5, 5, 9, 9, 27, 27, 28, 28, 33}), nil, 0, true); !slices.Equal(l, []api.Call{call(2, 0, -1)}) || e != api.OK {
		t.Error(l, e)
	}
	if l, e := dist.Calls(big(), melds, of([]int{7, 8, 9, 10, 16, 17, 24, 25, 27, 28, 29, 31, 32}), nil, 9, true); len(l) != 0 || e != api.OK {
		t.Error("chows over the end of a suit:", l, e)
	}
}

// TestCallsOfAllHands (P3.5): calls are those that the chapter's terms allow, each with the oracle's distance.
func TestCallsOfAllHands(t *testing.T) {
	d, found := dice(8), map[int]int{}
	for i, s := range narrow() {
		forms := formsFor(s)
		for n := range 40 {
			h, seen := d.hand(s, d.some(s, n%2), false)
			for k := range h.Bag {
				for _, before := range []bool{true, false} {
					l, e := dist.Calls(s, forms, h, seen, k, before)
					if (e == api.ErrFull) != (dist.Left(s, h, seen, []int{k}) == 0) || e != api.OK && e != api.ErrFull {
						t.Error(i, h, seen, k, e)
					}
					if e != api.OK {
						continue
					}
					want := callsOf(s, forms, h, seen, k, before)
					if !slices.Equal(l, want) {
						t.Error(i, h, seen, k, before, l, want)
					}
					for _, c := range l {
						found[c.Group.What]++
					}
				}
			}
		}
	}
	for what := api.Chow; what <= api.Kong; what++ {
		if found[what] < 10 {
			t.Error("too few calls of", what)
		}
	}
}

// callsOf are the calls of a hand with a tile that is left.
func callsOf(s api.Set, forms []api.Form, h api.Hand, seen []int, kind int, before bool) []api.Call {
	var list []api.Call
	add := func(what, low int, others ...int) {
		after := shape.Copy(h)
		for _, k := range others {
			after.Bag[k]--
		}
		after.Melds = append(after.Melds, open(what, low))
		n, e := dist.Distance(s, forms, after, seen)
		if e != api.OK {
			n = -1
		}
		list = append(list, api.Call{Group: open(what, low), After: n})
	}
	if len(h.Melds) == s.Melds {
		return nil
	}
	for low := max(0, kind-2); low <= kind && before; low++ {
		others := slices.DeleteFunc(tilesOf(s, open(api.Chow, low)), func(k int) bool { return k == kind })
		if len(others) == 2 && h.Bag[others[0]] > 0 && h.Bag[others[1]] > 0 {
			add(api.Chow, low, others...)
		}
	}
	if h.Bag[kind] >= 2 {
		add(api.Pung, kind, kind, kind)
	}
	if h.Bag[kind] >= 3 {
		add(api.Kong, kind, kind, kind, kind)
	}
	return list
}

package shape_test

import (
	"slices"
	"testing"

	"sparrow/api"
	"sparrow/shape"
	"sparrow/tile"
)

// TestWaits (P2.5): waits that were found by hand, among them the chapter's examples.
func TestWaits(t *testing.T) {
	for i, c := range []struct {
		s    api.Set
		l    []api.Form
		h    api.Hand
		want []int
	}{
		{small(), form(1), tiny(1, 1, 1, 1), []int{3}}, {small(), form(1), tiny(3, 1, 0, 0), []int{1, 2}}, {small(), form(1), tiny(0, 0, 2, 2), []int{2, 3}}, {small(), form(1), tiny(1, 1, 2, 0), []int{2}}, {small(), form(1), tiny(2, 2, 0, 0), []int{0, 1}},
		{small(), form(3, 0, 1, 2, 3), tiny(1, 1, 1, 1), []int{0, 1, 2, 3}}, {small(), form(3, 0, 1, 2, 3), tiny(2, 1, 1, 0), []int{3}}, {small(), form(3, 0, 1, 2, 3), tiny(2, 2, 0, 0), nil}, {small(), form(3, 0, 1, 2, 3), tiny(3, 1, 0, 0), nil},
		{small(), form(1), tiny(0, 0, 1, 0, kong(2)), nil}, {small(), form(1), tiny(0, 0, 1, 0, kong(3)), []int{2}}, {small(), form(1), tiny(0, 1, 0, 0, open(pung(1))), nil}, {small(), form(1), tiny(1, 0, 0, 0, open(chow(0))), []int{0}}, {small(), form(1), tiny(4, 0, 0, 0), nil}, {small(), form(1), tiny(1, 1, 3, 0), nil},
		{small(), form(1), tiny(4, 1, 0, 0), nil}, {small(), slices.Concat(form(3, 0, 1, 2, 3), form(1)), tiny(1, 1, 1, 1), []int{0, 1, 2, 3}}, {small(), slices.Concat(form(1), form(3, 0, 1, 2, 3)), tiny(2, 1, 1, 0), []int{0, 3}},
		{small(), form(6, 0, 0, 1, 1, 3), tiny(2, 1, 0, 1), []int{1}}, {small(), form(6, 0, 0, 1, 1, 3), tiny(2, 2, 0, 0), []int{3}}, {small(), form(6, 0, 0, 1, 1, 3), tiny(3, 1, 0, 0), nil}, {small(), form(6, 0, 0, 0, 0, 3), tiny(4, 0, 0, 0), []int{3}},
		{big(), form(1), of([]int{0, 0, 0, 1, 2, 3, 4, 5, 6, 7, 8, 8, 8}), []int{0, 1, 2, 3, 4, 5, 6, 7, 8}}, {big(), form(1), of([]int{0, 1, 3, 4, 5, 9, 9, 9, 31, 31, 31, 33, 33}), []int{2}}, {big(), form(1), of([]int{7, 8, 9, 10, 11, 20, 20, 27, 27, 27, 33, 33, 33}), []int{6}},
		{big(), form(1), of([]int{4}, kong(0), open(pung(9)), open(chow(4)), open(chow(4))), []int{4}}, {big(), form(1), of([]int{4}, kong(0), open(chow(3)), open(chow(4)), open(chow(2))), nil},
		{big(), form(2), of([]int{0, 0, 3, 3, 5, 5, 9, 9, 27, 27, 28, 28, 33}), []int{33}}, {big(), form(2), of([]int{0, 0, 0, 3, 5, 5, 9, 9, 27, 27, 28, 28, 33}), nil}, {big(), again(), of([]int{0, 0, 0, 3, 3, 5, 5, 9, 9, 27, 27, 28, 28}), []int{0}}, {big(), form(2), of([]int{0, 0, 0, 3, 3, 5, 5, 9, 9, 27, 27, 28, 28}), nil},
		{big(), orphans(), of(tile.Orphans(big())), tile.Orphans(big())}, {big(), orphans(), of([]int{0, 0, 8, 9, 17, 18, 26, 27, 28, 29, 30, 31, 32}), []int{33}}, {big(), orphans(), of([]int{1, 0, 8, 9, 17, 18, 26, 27, 28, 29, 30, 31, 32}), nil},
		{big(), form(4), of([]int{0, 3, 6, 10, 13, 16, 27, 28, 29, 30, 31, 32, 33}), []int{20, 23, 26}}, {big(), form(4), of([]int{0, 3, 6, 10, 13, 20, 27, 28, 29, 30, 31, 32, 33}), []int{16, 23, 26}}, {big(), form(4), of([]int{0, 3, 6, 10, 13, 13, 27, 28, 29, 30, 31, 32, 33}), nil},
		{big(), form(5), of([]int{0, 3, 10, 13, 16, 20, 23, 26, 33, 33, 4, 4, 4}), []int{6}}, {big(), form(5), of([]int{0, 3, 6, 10, 13, 16, 20, 23, 26, 5}, open(pung(31))), []int{5}}, {big(), form(5), of([]int{0, 3, 6, 10, 13, 16, 20, 23, 26, 4, 5, 7, 7}), []int{3, 6}},
	} {
		if l := shape.Waits(c.s, c.l, c.h); !slices.Equal(l, c.want) {
			t.Error(i, l)
		}
	}
}

// TestWins (P2.5): winning hands of the chapter's examples, and hands that are not full.
func TestWins(t *testing.T) {
	for i, c := range []struct {
		l    []api.Form
		h    api.Hand
		want bool
	}{
		{form(1), tiny(0, 0, 0, 2, open(chow(0))), true}, {form(1), tiny(0, 0, 0, 1, open(chow(0))), false}, {form(1), tiny(1, 1, 1, 2), true}, {form(1), tiny(1, 1, 1, 1), false}, {form(1), tiny(1, 1, 2, 1), false}, {form(1), tiny(0, 0, 2, 0, kong(3)), true}, {form(1), tiny(0, 1, 1, 0, kong(3)), false},
		{form(1), tiny(2, 2, 0, 1), false}, {form(1), tiny(0, 0, 2, 0, kong(2)), false}, {form(1), tiny(0, 0, 2, 0, pung(3)), false}, {form(1), api.Hand{}, false}, {form(2), tiny(1, 1, 1, 2), false}, {nil, tiny(1, 1, 1, 2), false}, {slices.Concat(form(4), form(1)), tiny(1, 1, 1, 2), true}, {slices.Concat(form(1), form(4)), tiny(1, 1, 1, 2), true},
	} {
		if shape.Wins(small(), c.l, c.h) != c.want {
			t.Error(i)
		}
	}
}

// TestWaitsAreApart (R4): the hand stays as it is, and waits are new each time.
func TestWaitsAreApart(t *testing.T) {
	h := tiny(1, 1, 1, 1)
	l := shape.Waits(small(), form(3, 0, 1, 2, 3), h)
	l[0] = 9
	if again := shape.Waits(small(), form(3, 0, 1, 2, 3), h); again[0] != 0 || !shape.Same(h, tiny(1, 1, 1, 1)) {
		t.Error(again, h)
	}
	all := shape.Total(small(), h)
	all[0] = 4
	g := shape.Tiles(small(), pung(3))
	g[0] = 0
	if !shape.Same(h, tiny(1, 1, 1, 1)) || shape.Total(small(), h)[0] != 1 || shape.Tiles(small(), pung(3))[0] != 3 {
		t.Error("Total and Tiles")
	}
}

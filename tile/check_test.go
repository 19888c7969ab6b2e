package tile_test

import (
	"math"
	"slices"
	"testing"

	"sparrow/api"
	"sparrow/tile"
)

// TestCheck (P1.1): the least and the greatest values of each field, and those beyond them.
func TestCheck(t *testing.T) {
	for i, s := range sets() {
		if e := tile.Check(s); e != api.OK {
			t.Errorf("set %d: %v", i, e)
		}
	}
	for i, c := range []struct {
		change func(*api.Set)
		want   api.Errno
	}{
		{func(s *api.Set) { s.Players = 3 }, api.OK},
		{func(s *api.Set) { s.Players = 2 }, api.ErrRange},
		{func(s *api.Set) { s.Players = 5 }, api.ErrRange},
		{func(s *api.Set) { s.Players = math.MinInt }, api.ErrRange},
		{func(s *api.Set) { s.Suits = []int{9, 9, 9, 9} }, api.ErrFull},
		{func(s *api.Set) { s.Suits = []int{9, 0, 9} }, api.ErrRange},
		{func(s *api.Set) { s.Suits = []int{9, 9, 10} }, api.ErrRange},
		{func(s *api.Set) { s.Suits = []int{-1, 9, 9} }, api.ErrRange},
		{func(s *api.Set) { s.Suits = []int{9, 1, 9} }, api.OK},
		{func(s *api.Set) { s.Suits, s.Reds, s.Melds, s.Dead = nil, nil, 1, 0 }, api.OK},
		{func(s *api.Set) { s.Winds, s.Dragons = 0, 0 }, api.OK},
		{func(s *api.Set) { s.Winds = -1 }, api.ErrRange},
		{func(s *api.Set) { s.Winds = 5 }, api.ErrRange},
		{func(s *api.Set) { s.Dragons = -1 }, api.ErrRange},
		{func(s *api.Set) { s.Dragons = 4 }, api.ErrRange},
		{func(s *api.Set) { s.Flowers = -1 }, api.ErrRange},
		{func(s *api.Set) { s.Flowers = 8 }, api.OK},
		{func(s *api.Set) { s.Flowers = 9 }, api.ErrRange},
		{func(s *api.Set) { s.Copies = 0 }, api.ErrRange},
		{func(s *api.Set) { s.Copies, s.Melds, s.Dead = 1, 1, 0 }, api.OK},
		{func(s *api.Set) { s.Copies = 5 }, api.ErrRange},
		{func(s *api.Set) { s.Melds = 0 }, api.ErrRange},
		{func(s *api.Set) { s.Melds = 1 }, api.OK},
		{func(s *api.Set) { s.Melds = 5 }, api.ErrRange},
		{func(s *api.Set) { s.Dead = -1 }, api.ErrRange},
		{func(s *api.Set) { s.Dead = 0 }, api.OK},
		{func(s *api.Set) { s.Dead = 20 }, api.OK},
		{func(s *api.Set) { s.Dead = 21 }, api.ErrRange},
		{func(s *api.Set) { s.Dead = math.MaxInt }, api.ErrRange},
		{func(s *api.Set) { s.Reds = []int{0, 33} }, api.OK},
		{func(s *api.Set) { s.Reds = []int{34} }, api.ErrRange},
		{func(s *api.Set) { s.Flowers, s.Reds = 8, []int{34} }, api.ErrRange},
		{func(s *api.Set) { s.Reds = []int{-1} }, api.ErrRange},
		{func(s *api.Set) { s.Reds = []int{4, 4} }, api.ErrOrder},
		{func(s *api.Set) { s.Reds = []int{4, 13, 5} }, api.ErrOrder},
		{func(s *api.Set) { s.Reds = count(34) }, api.OK},
	} {
		if e := tile.Check(changed(big(), c.change)); e != c.want {
			t.Errorf("%d: %v instead of %v", i, e, c.want)
		}
	}
}

// TestCheckSize (P1.1): how many tiles a set needs; flowers are among them.
func TestCheckSize(t *testing.T) {
	for i, c := range []struct {
		change func(*api.Set)
		want   api.Errno
	}{
		{func(s *api.Set) { s.Dead = 3 }, api.OK},
		{func(s *api.Set) { s.Dead = 4 }, api.ErrShort},
		{func(s *api.Set) { s.Dead, s.Flowers = 4, 1 }, api.OK},
		{func(s *api.Set) { s.Dead, s.Flowers = 5, 1 }, api.ErrShort},
		{func(s *api.Set) { s.Dead, s.Copies = 0, 3 }, api.ErrShort},
		{func(s *api.Set) { s.Dead, s.Players = 0, 4 }, api.ErrShort},
		{func(s *api.Set) { s.Dead, s.Players, s.Flowers = 0, 4, 1 }, api.OK},
		{func(s *api.Set) { s.Dead, s.Melds, s.Flowers = 0, 2, 5 }, api.ErrShort},
		{func(s *api.Set) { s.Dead, s.Melds, s.Flowers = 0, 2, 6 }, api.OK},
	} {
		if e := tile.Check(changed(small(), c.change)); e != c.want {
			t.Errorf("%d: %v instead of %v", i, e, c.want)
		}
	}
}

// TestCheckOrder (P1, P1.1): of several errors the first one is found.
func TestCheckOrder(t *testing.T) {
	none := func(s *api.Set) { s.Suits, s.Winds, s.Dragons = nil, 0, 0 }
	for i, c := range []struct {
		change func(*api.Set)
		want   api.Errno
	}{
		{func(s *api.Set) { s.Players, s.Suits = 2, []int{1, 1, 1, 1} }, api.ErrRange},
		{func(s *api.Set) { s.Suits = []int{0, 10, 3, 3} }, api.ErrFull},
		{func(s *api.Set) { s.Suits, s.Winds = []int{3, 3, 3, 3}, 5 }, api.ErrFull},
		{func(s *api.Set) { s.Suits, s.Copies = []int{3, 3, 3, 3}, 0 }, api.ErrFull},
		{func(s *api.Set) { s.Suits, s.Reds = []int{3, 3, 3, 3}, []int{-1} }, api.ErrFull},
		{func(s *api.Set) { s.Suits, s.Winds, s.Dragons = []int{0}, 0, 0 }, api.ErrRange},
		{func(s *api.Set) { none(s); s.Winds = -1 }, api.ErrRange},
		{func(s *api.Set) { none(s); s.Dragons = -1 }, api.ErrRange},
		{func(s *api.Set) { none(s); s.Flowers = 9 }, api.ErrRange},
		{func(s *api.Set) { none(s); s.Copies = 5 }, api.ErrRange},
		{func(s *api.Set) { none(s); s.Melds = 0 }, api.ErrRange},
		{func(s *api.Set) { none(s); s.Dead = 21 }, api.ErrRange},
		{func(s *api.Set) { none(s); s.Reds = []int{7} }, api.ErrShort},
		{func(s *api.Set) { none(s); s.Reds = []int{-1} }, api.ErrShort},
		{func(s *api.Set) { none(s); s.Suits, s.Reds = []int{1}, []int{1} }, api.ErrRange},
		{func(s *api.Set) { none(s); s.Suits, s.Reds = []int{1}, []int{0, 0} }, api.ErrOrder},
		{func(s *api.Set) { none(s); s.Suits, s.Reds, s.Flowers, s.Dead = []int{1}, nil, 8, 0 }, api.ErrShort},
		{func(s *api.Set) { s.Dead, s.Reds = 21, []int{2, 1} }, api.ErrRange},
		{func(s *api.Set) { s.Dead, s.Reds = -1, []int{2, 1} }, api.ErrRange},
		{func(s *api.Set) { s.Flowers, s.Reds = 9, []int{2, 1} }, api.ErrRange},
		{func(s *api.Set) { s.Reds = []int{2, 1, 99} }, api.ErrOrder},
		{func(s *api.Set) { s.Reds = []int{2, 99, 1} }, api.ErrRange},
		{func(s *api.Set) { s.Reds = []int{2, -1} }, api.ErrRange},
		{func(s *api.Set) { s.Dead, s.Reds = 4, []int{2, 1} }, api.ErrOrder},
		{func(s *api.Set) { s.Dead, s.Reds = 4, []int{4} }, api.ErrRange},
		{func(s *api.Set) { s.Dead, s.Reds = 21, nil }, api.ErrRange},
		{func(s *api.Set) { s.Copies, s.Dead = 5, 20 }, api.ErrRange},
	} {
		if e := tile.Check(changed(small(), c.change)); e != c.want {
			t.Errorf("%d: %v instead of %v", i, e, c.want)
		}
	}
}

// TestNotValid (P1.1): what the functions return for a set that is not valid, whatever else is wrong.
func TestNotValid(t *testing.T) {
	for i, c := range wrongSets() {
		s := c.s
		if e := tile.Check(s); e != c.e {
			t.Errorf("%d: Check: %v instead of %v", i, e, c.e)
		}
		if tile.Kinds(s) != 0 || tile.Size(s) != 0 || len(tile.Orphans(s)) != 0 || len(tile.Wall(s, 1)) != 0 {
			t.Errorf("%d: Kinds, Size, Orphans or Wall", i)
		}
		for _, n := range []int{-1, 0, 4, 16, 1000} {
			suit, rank := tile.Place(s, n)
			if tile.Kind(s, n) != -1 || tile.Red(s, n) || suit != -4 || rank != 0 || tile.Runs(s, n) {
				t.Errorf("%d, %d: Kind, Red, Place or Runs", i, n)
			}
			if tile.After(s, n) != -1 || tile.Mirror(s, n) != -1 || tile.Swap(s, n, 0, 0) != -1 || tile.Swap(s, n, 0, 1) != -1 {
				t.Errorf("%d, %d: After, Mirror or Swap", i, n)
			}
		}
	}
}

// TestNotValidErrors (P1.3, P1.4, P1.5): Check's error comes before all others, and with no result.
func TestNotValidErrors(t *testing.T) {
	for i, c := range wrongSets() {
		for _, tiles := range [][]int{nil, {0}, {-1}, {0, 0}} {
			bag, e := tile.Bag(c.s, tiles)
			faces, f := tile.Faces(c.s, tiles)
			if e != c.e || f != c.e || len(bag) != 0 || len(faces) != 0 {
				t.Error(i, "Bag or Faces", e, f)
			}
		}
		for _, l := range [][]api.Face{nil, {{Kind: 99}}, {{Red: true}}} {
			if text, e := tile.Text(c.s, l); e != c.e || text != "" {
				t.Error(i, "Text", e)
			}
		}
		for _, text := range []string{"", "x", "9f", "1M"} {
			if l, e := tile.Read(c.s, text); e != c.e || len(l) != 0 {
				t.Error(i, "Read", e)
			}
		}
		for _, dealer := range []int{0, -1} {
			n, e := tile.Cut(c.s, dealer, nil)
			hands, live, dead, f := tile.Deal(c.s, nil, dealer, 0)
			if e != c.e || f != c.e || n != 0 || len(hands)+len(live)+len(dead) != 0 {
				t.Error(i, "Cut or Deal", e, f)
			}
		}
	}
}

// TestAnyArguments (P1, R5): no function panics, however great or small the numbers are.
func TestAnyArguments(t *testing.T) {
	numbers := []int{math.MinInt, math.MinInt + 1, -5, -4, -1, 0, 1, 34, 144, math.MaxInt - 1, math.MaxInt}
	strange := sets()
	for _, n := range numbers {
		l := []int{n, n, 0, n}
		strange = append(strange, api.Set{Players: n, Suits: l, Winds: n, Dragons: n, Flowers: n, Copies: n, Melds: n, Dead: n, Reds: l},
			changed(big(), func(s *api.Set) { s.Suits = l[:3] }), changed(big(), func(s *api.Set) { s.Reds = l }),
			changed(big(), func(s *api.Set) { s.Winds, s.Copies = n, n }), changed(big(), func(s *api.Set) { s.Melds, s.Dead = n, n }))
	}
	for _, s := range strange {
		for _, n := range numbers {
			noPanic(t, "a function of sets", func() { callAll(s, n) })
		}
	}
}

// callAll calls all functions for a set and a number.
func callAll(s api.Set, n int) {
	tile.Check(s)
	tile.Kinds(s)
	tile.Size(s)
	tile.Kind(s, n)
	tile.Red(s, n)
	tile.Place(s, n)
	tile.Runs(s, n)
	tile.Orphans(s)
	tile.After(s, n)
	tile.Mirror(s, n)
	tile.Swap(s, n, n, 0)
	tile.Swap(s, 0, 0, n)
	tile.Bag(s, []int{n})
	tile.Faces(s, []int{n, n})
	tile.Text(s, []api.Face{{Kind: n}, {Kind: n, Red: true}})
	tile.Read(s, string([]byte{byte(n), 'm'}))
	tile.Wall(s, uint64(n))
	tile.Cut(s, n, []int{n, n})
	tile.Cut(s, 0, []int{n, n, n, n})
	tile.Deal(s, count(tile.Size(s)), n, 0)
	tile.Deal(s, count(tile.Size(s)), 0, n)
	tile.Deal(s, []int{n}, 0, 0)
	tile.Same(s, big())
	tile.Copy(s)
}

// TestSame (P1.6): sets differ if any field does, valid or not.
func TestSame(t *testing.T) {
	for i, change := range []func(*api.Set){
		func(s *api.Set) { s.Players++ }, func(s *api.Set) { s.Suits = []int{9, 9} }, func(s *api.Set) { s.Suits = []int{9, 8, 9} },
		func(s *api.Set) { s.Suits = []int{9, 9, 9, 9} }, func(s *api.Set) { s.Suits = nil }, func(s *api.Set) { s.Winds++ },
		func(s *api.Set) { s.Dragons++ }, func(s *api.Set) { s.Flowers++ }, func(s *api.Set) { s.Copies++ }, func(s *api.Set) { s.Melds++ },
		func(s *api.Set) { s.Dead++ }, func(s *api.Set) { s.Reds = []int{4, 13} }, func(s *api.Set) { s.Reds = []int{13, 4, 22} }, func(s *api.Set) { s.Reds = nil },
	} {
		s := changed(big(), change)
		if tile.Same(s, big()) || tile.Same(big(), s) || !tile.Same(s, tile.Copy(s)) || !tile.Same(s, changed(big(), change)) {
			t.Error(i)
		}
	}
	empty := api.Set{Suits: []int{}, Reds: []int{}}
	if !tile.Same(api.Set{}, empty) || !tile.Same(empty, api.Set{}) || !tile.Same(big(), big()) {
		t.Error("equal sets")
	}
}

// TestCopy (P1.6, R4): a copy is equal, and neither it nor the set changes with the other.
func TestCopy(t *testing.T) {
	all := sets()
	for _, c := range wrongSets() {
		all = append(all, c.s)
	}
	for i, s := range all {
		if c := tile.Copy(s); !tile.Same(s, c) || c.Players != s.Players || !slices.Equal(c.Suits, s.Suits) || !slices.Equal(c.Reds, s.Reds) {
			t.Error(i, c)
		}
	}
	s := big()
	c := tile.Copy(s)
	c.Suits[0], c.Reds[0] = 1, 2
	if !tile.Same(s, big()) {
		t.Error("the set changes with its copy")
	}
	s.Suits[1], s.Reds[1] = 3, 5
	if c.Suits[1] != 9 || c.Reds[1] != 13 {
		t.Error("the copy changes with its set")
	}
	suits, memory := roomy([]int{9, 9, 9})
	c = tile.Copy(api.Set{Suits: suits[:2]})
	_ = append(c.Suits, 7)
	if !slices.Equal(memory[:3], []int{9, 9, 9}) {
		t.Error("what is added to a copy is in the set's memory")
	}
}

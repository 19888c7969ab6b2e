package tile_test

import (
	"slices"
	"testing"

	"sparrow/api"
	"sparrow/tile"
)

// flowered is small with a flower: a number below 17 does not fit into the words evenly.
func flowered() api.Set {
	s := small()
	s.Flowers = 1
	return s
}

// TestWall (P1.5): whole walls, worked out apart. The first word of the seed 10598961156178136274 is the greatest one, 2^31 - 1: it is taken below 16, and left out below 17; the first words of the next two seeds are the least one that is left out below 17, and the greatest one that is taken; the last seed's second word is left out below 15.
func TestWall(t *testing.T) {
	for i, c := range []struct {
		s    api.Set
		seed uint64
		want []int
	}{
		{small(), 0, []int{3, 7, 12, 10, 6, 1, 8, 0, 2, 4, 14, 5, 11, 13, 9, 15}},
		{small(), 1, []int{13, 11, 12, 9, 2, 14, 4, 1, 10, 0, 7, 15, 5, 8, 3, 6}},
		{small(), 1<<64 - 1, []int{12, 13, 1, 6, 2, 14, 7, 10, 9, 5, 11, 0, 4, 3, 15, 8}},
		{small(), 10598961156178136274, []int{3, 12, 8, 7, 11, 0, 2, 13, 6, 14, 9, 4, 1, 10, 5, 15}},
		{flowered(), 10598961156178136274, []int{6, 13, 10, 3, 9, 16, 8, 4, 11, 7, 2, 5, 1, 12, 15, 14, 0}},
		{flowered(), 7580834379684465874, []int{0, 11, 9, 13, 7, 16, 8, 4, 3, 12, 1, 5, 10, 15, 2, 6, 14}},
		{flowered(), 286039504981675218, []int{2, 4, 13, 14, 11, 1, 5, 0, 15, 9, 8, 10, 7, 12, 3, 6, 16}},
		{small(), 10072740420360152813, []int{12, 13, 9, 4, 3, 2, 5, 10, 8, 6, 0, 11, 7, 14, 15, 1}},
	} {
		if w := tile.Wall(c.s, c.seed); !slices.Equal(w, c.want) {
			t.Error(i, w)
		}
	}
}

// TestWallEnds (P1.5): the ends of walls of 136 tiles. The first word of the seeds after the first two is left out, but that of the last but one; of the last one, the first two are.
func TestWallEnds(t *testing.T) {
	for i, c := range []struct {
		seed uint64
		want []int
	}{
		{0, []int{118, 96, 133, 24, 97, 41, 114, 131, 39, 103}}, {1 << 63, []int{122, 96, 45, 88, 35, 9, 87, 39, 58, 31}},
		{10598961156178136274, []int{24, 69, 52, 94, 83, 133, 68, 31, 108, 51}}, {6497215754401303762, []int{25, 18, 67, 17, 49, 36, 68, 110, 129, 24}},
		{17649164953408064722, []int{54, 5, 115, 111, 129, 28, 63, 122, 70, 135}}, {13035431580434862393, []int{81, 11, 53, 49, 124, 117, 39, 101, 33, 112}},
	} {
		if w := tile.Wall(big(), c.seed); len(w) != 136 || !slices.Equal(w[126:], c.want) {
			t.Error(i, w)
		}
	}
}

// TestWallIsWhole (P1.7, R6): a wall has each tile once, and is the same each time.
func TestWallIsWhole(t *testing.T) {
	for i, s := range sets() {
		for seed := range uint64(20) {
			w := tile.Wall(s, seed*seed<<50+seed)
			again := tile.Wall(s, seed*seed<<50+seed)
			if !slices.Equal(slices.Sorted(slices.Values(w)), count(tile.Size(s))) || !slices.Equal(w, again) {
				t.Error(i, seed, w)
			}
			if w[0] = -1; again[0] == -1 {
				t.Error(i, "walls share memory")
			}
		}
	}
}

// TestCut (P1.5): the cut of dice.
func TestCut(t *testing.T) {
	for i, c := range []struct {
		s      api.Set
		dealer int
		dice   []int
		want   int
	}{
		{small(), 1, []int{2, 3}, 4}, {small(), 0, []int{1}, 2}, {small(), 2, []int{6, 6}, 13}, {small(), 0, []int{6, 6, 6, 6}, 10}, {small(), 0, []int{3}, 0}, {small(), 1, []int{1}, 7}, {small(), 2, []int{6}, 1},
		{big(), 0, []int{1}, 2}, {big(), 0, []int{2, 2}, 110}, {big(), 3, []int{6}, 12}, {big(), 3, []int{5}, 112}, {big(), 1, []int{4, 3}, 116}, {big(), 2, []int{6, 5, 4, 3}, 2}, {big(), 0, []int{1, 1, 1, 1}, 110},
		{garden(), 1, []int{2, 1}, 114}, {uneven(), 2, []int{1, 1}, 37}, {honours(), 2, []int{1, 1, 1}, 15},
	} {
		if n, e := tile.Cut(c.s, c.dealer, c.dice); n != c.want || e != api.OK {
			t.Error(i, n, e)
		}
	}
	for i, s := range sets() {
		n, players := tile.Size(s), s.Players
		for x := range 4 * 6 * 6 {
			dealer, a, b := x/36%players, x/6%6+1, x%6+1
			want := (n*((dealer+a+b-1)%players)/players + 2*(a+b)) % n
			if cut, e := tile.Cut(s, dealer, []int{a, b}); cut != want || e != api.OK {
				t.Error(i, dealer, a, b, cut, e)
			}
		}
	}
}

// TestCutErrors (P1.5): the dealer, then how many dice, then each of them.
func TestCutErrors(t *testing.T) {
	for i, c := range []struct {
		dealer int
		dice   []int
		want   api.Errno
	}{
		{3, []int{1}, api.ErrRange}, {-1, []int{1}, api.ErrRange}, {3, nil, api.ErrRange}, {-1, []int{1, 1, 1, 1, 1}, api.ErrRange}, {0, nil, api.ErrShort}, {0, []int{}, api.ErrShort},
		{0, []int{1, 1, 1, 1, 1}, api.ErrFull}, {0, []int{0, 7, 1, 1, 1}, api.ErrFull}, {0, []int{0}, api.ErrRange}, {0, []int{7}, api.ErrRange}, {2, []int{1, 1, 1, 0}, api.ErrRange}, {2, []int{1, 7, 1}, api.ErrRange}, {0, []int{-1, 3}, api.ErrRange},
	} {
		if n, e := tile.Cut(small(), c.dealer, c.dice); n != 0 || e != c.want {
			t.Error(i, n, e)
		}
	}
	if _, e := tile.Cut(big(), 3, []int{1}); e != api.OK {
		t.Error(e)
	}
	if _, e := tile.Cut(big(), 4, []int{1}); e != api.ErrRange {
		t.Error(e)
	}
}

// two is a set for hands of seven tiles, three one for hands of ten.
func two() api.Set { return api.Set{Players: 3, Suits: []int{7}, Copies: 4, Melds: 2} }

func three() api.Set {
	return api.Set{Players: 3, Suits: []int{9}, Dragons: 1, Copies: 4, Melds: 3, Dead: 3}
}

// TestDeal (P1.5): fours as long as four are lacking, then one by one; from the cut on, and from the dealer on.
func TestDeal(t *testing.T) {
	for i, c := range []struct {
		s           api.Set
		cut, dealer int
		hands       [][]int
		live, dead  []int
	}{
		{small(), 14, 1, [][]int{{6, 7, 8, 9}, {14, 15, 0, 1}, {2, 3, 4, 5}}, []int{10, 11}, []int{12, 13}},
		{small(), 0, 0, [][]int{{0, 1, 2, 3}, {4, 5, 6, 7}, {8, 9, 10, 11}}, []int{12, 13}, []int{14, 15}},
		{small(), 3, 2, [][]int{{7, 8, 9, 10}, {11, 12, 13, 14}, {3, 4, 5, 6}}, []int{15, 0}, []int{1, 2}},
		{small(), 15, 0, [][]int{{15, 0, 1, 2}, {3, 4, 5, 6}, {7, 8, 9, 10}}, []int{11, 12}, []int{13, 14}},
		{two(), 5, 2, [][]int{{9, 10, 11, 12, 18, 21, 24}, {13, 14, 15, 16, 19, 22, 25}, {5, 6, 7, 8, 17, 20, 23}}, []int{26, 27, 0, 1, 2, 3, 4}, nil},
		{three(), 39, 1, [][]int{{7, 8, 9, 10, 19, 20, 21, 22, 25, 28}, {39, 0, 1, 2, 11, 12, 13, 14, 23, 26}, {3, 4, 5, 6, 15, 16, 17, 18, 24, 27}}, []int{29, 30, 31, 32, 33, 34, 35}, []int{36, 37, 38}},
	} {
		h, live, dead, e := tile.Deal(c.s, count(tile.Size(c.s)), c.cut, c.dealer)
		if e != api.OK || !slices.EqualFunc(h, c.hands, slices.Equal[[]int]) || !slices.Equal(live, c.live) || !slices.Equal(dead, c.dead) {
			t.Error(i, h, live, dead, e)
		}
	}
	h, live, dead, e := tile.Deal(big(), count(136), 130, 3)
	if e != api.OK || len(h) != 4 || !slices.Equal(h[3], []int{130, 131, 132, 133, 10, 11, 12, 13, 26, 27, 28, 29, 42}) || !slices.Equal(h[2], []int{6, 7, 8, 9, 22, 23, 24, 25, 38, 39, 40, 41, 45}) {
		t.Error(h, e)
	}
	if len(live) != 70 || live[0] != 46 || live[69] != 115 || !slices.Equal(dead, []int{116, 117, 118, 119, 120, 121, 122, 123, 124, 125, 126, 127, 128, 129}) {
		t.Error(live, dead)
	}
}

// TestDealErrors (P1.5): the wall before the cut and the dealer.
func TestDealErrors(t *testing.T) {
	twice := append(count(15), 14)
	for i, c := range []struct {
		wall        []int
		cut, dealer int
		want        api.Errno
	}{
		{nil, 0, 0, api.ErrForm}, {count(15), 0, 0, api.ErrForm}, {count(17), 0, 0, api.ErrForm}, {twice, 0, 0, api.ErrForm}, {append(count(15), 16), 0, 0, api.ErrForm}, {append(count(15), -1), 0, 0, api.ErrForm}, {append(count(16), 15), 0, 0, api.ErrForm},
		{twice, 99, 0, api.ErrForm}, {twice, 0, -1, api.ErrForm}, {nil, -1, 9, api.ErrForm}, {count(16), 16, 0, api.ErrRange}, {count(16), -1, 0, api.ErrRange}, {count(16), 0, 3, api.ErrRange}, {count(16), 0, -1, api.ErrRange}, {count(16), 15, 2, api.OK},
	} {
		h, live, dead, e := tile.Deal(small(), c.wall, c.cut, c.dealer)
		if e != c.want || e != api.OK && len(h)+len(live)+len(dead) != 0 {
			t.Error(i, h, live, dead, e)
		}
	}
}

// TestDealIsWhole (P1.7): hands, live and dead wall have together each tile once, and as many as they should.
func TestDealIsWhole(t *testing.T) {
	for i, s := range sets() {
		n := tile.Size(s)
		for cut := range n {
			h, live, dead, e := tile.Deal(s, tile.Wall(s, uint64(cut)), cut, cut%s.Players)
			all := slices.Concat(live, dead)
			for seat, hand := range h {
				all = append(all, hand...)
				if len(hand) != 3*s.Melds+1 {
					t.Error(i, cut, seat, hand)
				}
			}
			slices.Sort(all)
			if e != api.OK || len(h) != s.Players || len(dead) != s.Dead || !slices.Equal(all, count(n)) {
				t.Error(i, cut, e)
			}
		}
	}
}

// TestDealTurns (P1.11): a cut is the wall that begins there; the hands turn with the dealer, and nothing else does.
func TestDealTurns(t *testing.T) {
	for i, s := range sets() {
		wall := tile.Wall(s, 7)
		for cut := range wall {
			hands, live, dead, _ := tile.Deal(s, slices.Concat(wall[cut:], wall[:cut]), 0, 0)
			for dealer := range s.Players {
				h, l, d, e := tile.Deal(s, wall, cut, dealer)
				if e != api.OK || !slices.Equal(l, live) || !slices.Equal(d, dead) || len(h) != len(hands) {
					t.Fatal(i, cut, dealer, e)
				}
				for seat := range h {
					if !slices.Equal(h[(seat+dealer)%s.Players], hands[seat]) {
						t.Error(i, cut, dealer, seat)
					}
				}
			}
		}
	}
}

// TestDealIsApart (R4): the wall stays as it is, and no two lists that are dealt share memory.
func TestDealIsApart(t *testing.T) {
	wall, memory := roomy(count(16))
	was := slices.Clone(memory)
	h, live, dead, _ := tile.Deal(small(), wall, 0, 0)
	lists := append(slices.Clone(h), live, dead)
	for i, l := range lists {
		l[0] = -i - 1
		_ = append(l, -50)
	}
	want := [][]int{{-1, 1, 2, 3}, {-2, 5, 6, 7}, {-3, 9, 10, 11}, {-4, 13}, {-5, 15}}
	if !slices.EqualFunc(lists, want, slices.Equal[[]int]) || !slices.Equal(memory, was) {
		t.Error(lists, memory)
	}
	throws, memory := roomy([]int{2, 3})
	if tile.Cut(small(), 1, throws); !slices.Equal(memory, []int{2, 3, -99, -99, -99, -99}) {
		t.Error(memory)
	}
}

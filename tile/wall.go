package tile

import "sparrow/api"

// words are the words of a seed: the state of a linear congruential generator modulo 2^64.
type words uint64

// wordLimit is the least number that is greater than all words.
const wordLimit uint64 = 1 << 31

// next returns the next word.
func (w *words) next() uint64 {
	*w = *w*6364136223846793005 + 1442695040888963407
	return uint64(*w >> 33)
}

// draw returns a number below n. Words beyond the greatest multiple of n are left out: they would favour the least numbers.
func (w *words) draw(n int) int {
	below := uint64(n)
	word := w.next()
	for word >= wordLimit-wordLimit%below {
		word = w.next()
	}
	return int(word % below)
}

// Wall returns the wall of a seed.
func Wall(s api.Set, seed uint64) []int {
	n := Size(s)
	var tiles [api.MaxTiles]int
	for i := range n {
		tiles[i] = i
	}
	tiles = shuffled(tiles, n, words(seed))
	return copied(tiles[:n])
}

// shuffled exchanges the first n tiles in its own copy of the array.
func shuffled(tiles [api.MaxTiles]int, n int, w words) [api.MaxTiles]int {
	for i := n - 1; i > 0; i-- {
		j := w.draw(i + 1)
		tiles[i], tiles[j] = tiles[j], tiles[i]
	}
	return tiles
}

// Cut returns where the wall is cut by a dealer's dice.
func Cut(s api.Set, dealer int, dice []int) (int, api.Errno) {
	if e := checkCut(s, dealer, dice); e != api.OK {
		return 0, e
	}
	sum := 0
	for _, d := range dice {
		sum += d
	}
	n := size(s)
	seat := (dealer + sum - 1) % s.Players
	return (n*seat/s.Players + 2*sum) % n, api.OK
}

func checkCut(s api.Set, dealer int, dice []int) api.Errno {
	if e := Check(s); e != api.OK {
		return e
	}
	if !between(dealer, 0, s.Players-1) {
		return api.ErrRange
	}
	if len(dice) == 0 {
		return api.ErrShort
	}
	if len(dice) > 4 {
		return api.ErrFull
	}
	for _, d := range dice {
		if !between(d, 1, 6) {
			return api.ErrRange
		}
	}
	return api.OK
}

// Deal deals a wall from the cut on: the hands by seats, the live and the dead wall.
func Deal(s api.Set, wall []int, cut, dealer int) (hands [][]int, live, dead []int, e api.Errno) {
	if e = checkDeal(s, wall, cut, dealer); e != api.OK {
		return nil, nil, nil, e
	}
	tiles := append(copied(wall[cut:]), wall[:cut]...)
	hands = make([][]int, s.Players)
	taken := 0
	for has := 0; has < full(s); {
		step := 1
		if full(s)-has >= 4 {
			step = 4
		}
		for i := range s.Players {
			seat := (dealer + i) % s.Players
			hands[seat] = append(hands[seat], tiles[taken:taken+step]...)
			taken += step
		}
		has += step
	}
	end := len(tiles) - s.Dead
	return hands, copied(tiles[taken:end]), copied(tiles[end:]), api.OK
}

func checkDeal(s api.Set, wall []int, cut, dealer int) api.Errno {
	if e := Check(s); e != api.OK {
		return e
	}
	if len(wall) != size(s) || checkTiles(s, wall) != api.OK {
		return api.ErrForm
	}
	if !between(cut, 0, len(wall)-1) || !between(dealer, 0, s.Players-1) {
		return api.ErrRange
	}
	return api.OK
}

package tile

import (
	"slices"

	"sparrow/api"
)

// letters are those of the suits 0, 1 and 2, of winds, dragons and flowers; capitals are the same for red faces, and no flower is red.
const (
	letters  = "mpswdf"
	capitals = "MPSWD"
)

// Bag returns how many of the tiles there are of each plain kind; flowers are left out.
func Bag(s api.Set, tiles []int) ([]int, api.Errno) {
	if e := checkTiles(s, tiles); e != api.OK {
		return nil, e
	}
	bag := make([]int, plainKinds(s))
	for _, t := range tiles {
		if kind := face(s, t).Kind; kind < len(bag) {
			bag[kind]++
		}
	}
	return bag, api.OK
}

// Faces returns what is on the tiles, in their order.
func Faces(s api.Set, tiles []int) ([]api.Face, api.Errno) {
	if e := checkTiles(s, tiles); e != api.OK {
		return nil, e
	}
	var list []api.Face
	for _, t := range tiles {
		list = append(list, face(s, t))
	}
	return list, api.OK
}

// checkTiles returns Check's error, or the first error of the tiles: all of them exist, none of them twice.
func checkTiles(s api.Set, tiles []int) api.Errno {
	if e := Check(s); e != api.OK {
		return e
	}
	var seen [api.MaxTiles]bool
	for _, t := range tiles {
		if !between(t, 0, size(s)-1) {
			return api.ErrRange
		}
		if seen[t] {
			return api.ErrExists
		}
		seen[t] = true
	}
	return api.OK
}

// Text writes faces: for each longest row of neighbours with one letter, their digits and the letter.
func Text(s api.Set, l []api.Face) (string, api.Errno) {
	if e := Check(s); e != api.OK {
		return "", e
	}
	var text []byte
	var last byte
	for i, f := range l {
		p, e := placeOf(s, f)
		if e != api.OK {
			return "", e
		}
		sign := letter(p.suit, f.Red)
		if i > 0 && sign != last {
			text = append(text, last)
		}
		text = append(text, byte('1'+p.rank))
		last = sign
	}
	if len(l) > 0 {
		text = append(text, last)
	}
	return string(text), api.OK
}

// placeOf returns the place of a face's kind, and the face's error for a valid set.
func placeOf(s api.Set, f api.Face) (place, api.Errno) {
	p, ok := find(s, f.Kind)
	if !ok {
		return place{}, api.ErrRange
	}
	if f.Red && !slices.Contains(s.Reds, f.Kind) {
		return place{}, api.ErrKind
	}
	return p, api.OK
}

// column is the place of a suit's letter; winds, dragons and flowers (below 0) follow the suits.
func column(suit int) int {
	if suit >= 0 {
		return suit
	}
	return api.MaxSuits - 1 - suit
}

// suitAt is the suit whose letter has a place.
func suitAt(column int) int {
	if column < api.MaxSuits {
		return column
	}
	return api.MaxSuits - 1 - column
}

// letter is the letter of a valid face in a suit.
func letter(suit int, red bool) byte {
	if red {
		return capitals[column(suit)]
	}
	return letters[column(suit)]
}

// Read reads a text as Text writes it.
func Read(s api.Set, text string) ([]api.Face, api.Errno) {
	if e := Check(s); e != api.OK {
		return nil, e
	}
	marks, ok := split(text)
	if !ok {
		return nil, api.ErrForm
	}
	var list []api.Face
	for _, m := range marks {
		kind, ok := at(s, m.suit, m.rank)
		if !ok {
			return nil, api.ErrRange
		}
		f := api.Face{Kind: kind, Red: m.red}
		if _, e := placeOf(s, f); e != api.OK {
			return nil, e
		}
		list = append(list, f)
	}
	return list, api.OK
}

// mark is a digit of a text with what its letter says.
type mark struct {
	suit, rank int
	red        bool
}

// split returns the marks of a text, and whether it consists of groups of digits and a letter, in which no two neighbours have one letter.
func split(text string) ([]mark, bool) {
	var marks []mark
	var last rune
	start := 0
	for _, r := range text {
		if '1' <= r && r <= '9' {
			marks = append(marks, mark{rank: int(r - '1')})
			continue
		}
		suit, red, ok := suitOf(r)
		if !ok || r == last || start == len(marks) {
			return nil, false
		}
		for i := range marks[start:] {
			marks[start+i].suit, marks[start+i].red = suit, red
		}
		start, last = len(marks), r
	}
	return marks, start == len(marks)
}

// suitOf returns the suit of a letter (below 0 for winds, dragons and flowers), whether it is a capital, and whether there is such a letter.
func suitOf(r rune) (suit int, red, ok bool) {
	for i, x := range letters {
		if x == r {
			return suitAt(i), false, true
		}
	}
	for i, x := range capitals {
		if x == r {
			return suitAt(i), true, true
		}
	}
	return 0, false, false
}

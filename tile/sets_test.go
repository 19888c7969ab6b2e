package tile_test

import (
	"testing"

	"sparrow/api"
)

// big and small are the sets S and T of the chapter's examples.
func big() api.Set {
	return api.Set{Players: 4, Suits: []int{9, 9, 9}, Winds: 4, Dragons: 3, Copies: 4, Melds: 4, Dead: 14, Reds: []int{4, 13, 22}}
}

func small() api.Set {
	return api.Set{Players: 3, Suits: []int{3}, Dragons: 1, Copies: 4, Melds: 1, Dead: 2, Reds: []int{1}}
}

// changed is the set s with a change.
func changed(s api.Set, change func(*api.Set)) api.Set {
	change(&s)
	return s
}

// garden has all the flowers, and with them as many tiles as a set can have.
func garden() api.Set {
	return changed(big(), func(s *api.Set) { s.Flowers, s.Dead, s.Reds = 8, 20, []int{0, 27, 33} })
}

// uneven has suits of three lengths, and two flowers.
func uneven() api.Set {
	return api.Set{Players: 4, Suits: []int{1, 9, 2}, Winds: 2, Flowers: 2, Copies: 3, Melds: 2, Dead: 5, Reds: []int{0, 9, 12}}
}

// honours has no suit.
func honours() api.Set {
	return api.Set{Players: 3, Winds: 4, Dragons: 3, Flowers: 1, Copies: 4, Melds: 2, Dead: 7, Reds: []int{6}}
}

// sets are valid sets of many sorts.
func sets() []api.Set {
	return []api.Set{
		big(), small(), garden(), uneven(), honours(),
		changed(small(), func(s *api.Set) { s.Flowers, s.Reds = 1, []int{0, 1, 2, 3} }),
		{Players: 3, Suits: []int{1, 9}, Copies: 4, Melds: 1},
		{Players: 4, Suits: []int{9, 9, 9}, Winds: 4, Dragons: 3, Copies: 1, Melds: 2, Reds: []int{33}},
		{Players: 3, Suits: []int{2, 5, 5}, Winds: 1, Dragons: 2, Flowers: 8, Copies: 2, Melds: 2, Dead: 1},
		{Players: 4, Suits: []int{4, 7, 4}, Winds: 3, Flowers: 5, Copies: 4, Melds: 3, Dead: 20, Reds: []int{3, 4}},
	}
}

// wrongSet is a set that is not valid, and its error.
type wrongSet struct {
	s api.Set
	e api.Errno
}

func wrongSets() []wrongSet {
	return []wrongSet{
		{api.Set{}, api.ErrRange},
		{changed(big(), func(s *api.Set) { s.Suits = []int{9, 9, 9, 9} }), api.ErrFull},
		{changed(big(), func(s *api.Set) { s.Suits, s.Winds, s.Dragons, s.Reds = nil, 0, 0, nil }), api.ErrShort},
		{changed(big(), func(s *api.Set) { s.Reds = []int{13, 4} }), api.ErrOrder},
		{changed(small(), func(s *api.Set) { s.Dead = 4 }), api.ErrShort},
		{changed(big(), func(s *api.Set) { s.Copies = -1 }), api.ErrRange},
	}
}

// count is 0, 1, 2, up to n - 1.
func count(n int) []int {
	l := make([]int, n)
	for i := range l {
		l[i] = i
	}
	return l
}

// roomy is an equal list with room behind its end, in which the second result, the whole memory, shows what is written.
func roomy(l []int) (list, memory []int) {
	memory = append(append([]int(nil), l...), -99, -99, -99, -99)
	return memory[:len(l)], memory
}

// dice throws the same numbers in each run of the tests.
type dice uint64

func (d *dice) below(n int) int {
	*d = *d*2862933555777941757 + 3037000493
	return int(uint64(*d)>>20) % n
}

// noPanic names the call that panicked, against P1.
func noPanic(t *testing.T, name string, call func()) {
	t.Helper()
	defer func() {
		if p := recover(); p != nil {
			t.Errorf("%s panics: %v", name, p)
		}
	}()
	call()
}

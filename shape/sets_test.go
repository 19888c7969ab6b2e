package shape_test

import (
	"slices"
	"testing"

	"sparrow/api"
	"sparrow/tile"
)

// big and small are the sets S and T of the chapter's examples.
func big() api.Set {
	return api.Set{Players: 4, Suits: []int{9, 9, 9}, Winds: 4, Dragons: 3, Copies: 4, Melds: 4, Dead: 14, Reds: []int{4, 13, 22}}
}

func small() api.Set {
	return api.Set{Players: 3, Suits: []int{3}, Dragons: 1, Copies: 4, Melds: 1, Dead: 2, Reds: []int{1}}
}

// two has two melds, three has three, without winds and dragons.
func two() api.Set {
	return api.Set{Players: 3, Suits: []int{4}, Dragons: 2, Copies: 4, Melds: 2}
}

func three() api.Set {
	return api.Set{Players: 4, Suits: []int{9, 9, 9}, Copies: 3, Melds: 3}
}

// uneven has suits of three lengths, honours and flowers; lone has one tile of each kind; level has two suits and one that is too short for runs.
func uneven() api.Set {
	return api.Set{Players: 3, Suits: []int{1, 9, 2}, Winds: 3, Flowers: 2, Copies: 4, Melds: 2, Dead: 5}
}

func lone() api.Set {
	return api.Set{Players: 3, Suits: []int{9, 4}, Winds: 2, Dragons: 1, Copies: 1, Melds: 1}
}

func level() api.Set {
	return api.Set{Players: 3, Suits: []int{5, 5, 2}, Dragons: 1, Copies: 3, Melds: 2}
}

func sets() []api.Set { return []api.Set{big(), small(), two(), three(), uneven(), lone(), level()} }

// wrongSets are not valid, each with another error of tile.Check.
func wrongSets() []api.Set {
	wrong := []api.Set{{}, small(), small(), small()}
	wrong[1].Suits = []int{3, 3, 3, 3}
	wrong[2].Dead = 4
	wrong[3].Reds = []int{2, 1}
	return wrong
}

func chow(kind int) api.Group { return api.Group{What: api.Chow, Kind: kind} }
func pung(kind int) api.Group { return api.Group{What: api.Pung, Kind: kind} }
func kong(kind int) api.Group { return api.Group{What: api.Kong, Kind: kind} }
func pair(kind int) api.Group { return api.Group{What: api.Pair, Kind: kind} }

func open(g api.Group) api.Group {
	g.Open = true
	return g
}

// form is the list of one form.
func form(what int, kinds ...int) []api.Form { return []api.Form{{What: what, Kinds: kinds}} }

// again is the list of the form of pairs that may be equal.
func again() []api.Form { return []api.Form{{What: api.FormPairs, Again: true}} }

// bag has a tile of each of the kinds, for the set s.
func bag(s api.Set, kinds ...int) []int {
	counts := make([]int, tile.Kinds(s))
	for _, k := range kinds {
		counts[k]++
	}
	return counts
}

// of is a hand with concealed tiles of some kinds, for the set big.
func of(kinds []int, melds ...api.Group) api.Hand {
	return api.Hand{Bag: bag(big(), kinds...), Melds: melds}
}

// tiny is a hand for the set small, its bag as four counts.
func tiny(a, b, c, d int, melds ...api.Group) api.Hand {
	return api.Hand{Bag: []int{a, b, c, d}, Melds: melds}
}

// count is 0, 1, 2, up to n - 1.
func count(n int) []int {
	l := make([]int, n)
	for i := range l {
		l[i] = i
	}
	return l
}

func sum(l []int) int {
	n := 0
	for _, x := range l {
		n += x
	}
	return n
}

func sameLists(a, b [][]api.Group) bool {
	return slices.EqualFunc(a, b, slices.Equal[[]api.Group])
}

func sameReading(a, b api.Reading) bool {
	return a.Form == b.Form && a.Last == b.Last && slices.Equal(a.Groups, b.Groups)
}

func sameReadings(a, b []api.Reading) bool { return slices.EqualFunc(a, b, sameReading) }

// dice throws the same numbers in each run of the tests.
type dice uint64

func (d *dice) below(n int) int {
	*d = *d*2862933555777941757 + 3037000493
	return int(uint64(*d)>>20) % n
}

// noPanic names the call that panicked, against P1.
func noPanic(t *testing.T, name string, call func()) {
	t.Helper()
	defer func() {
		if p := recover(); p != nil {
			t.Errorf("%s panics: %v", name, p)
		}
	}()
	call()
}

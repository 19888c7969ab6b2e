package shape_test

import (
	"cmp"
	"slices"
	"testing"

	"sparrow/api"
	"sparrow/shape"
	"sparrow/tile"
)

// compareReadings is the order of readings: by Form, then by Groups, then by Last.
func compareReadings(a, b api.Reading) int {
	groups := slices.CompareFunc(a.Groups, b.Groups, func(x, y api.Group) int {
		return cmp.Or(cmp.Compare(x.What, y.What), cmp.Compare(x.Kind, y.Kind))
	})
	return cmp.Or(cmp.Compare(a.Form, b.Form), groups, cmp.Compare(a.Last, b.Last))
}

// TestReadingsAreWhole (P2.7): concealed groups have just the tiles of Bag, Last has one of the winning kind, and readings ascend.
func TestReadingsAreWhole(t *testing.T) {
	for i, s := range sets() {
		forms := formsFor(s)
		for _, h := range hands(s, forms, 60) {
			for k := range tile.Kinds(s) {
				var before *api.Reading
				for _, r := range shape.Readings(s, forms, h, k) {
					d := len(h.Melds)
					counts := bag(s)
					for _, g := range r.Groups[d:] {
						for _, x := range shape.Tiles(s, g) {
							counts[x]++
						}
						if g.Open {
							t.Error(i, h, k, r)
						}
					}
					if !slices.Equal(counts, h.Bag) || !slices.Equal(r.Groups[:d], h.Melds) || r.Last < d || !slices.Contains(shape.Tiles(s, r.Groups[r.Last]), k) {
						t.Error(i, h, k, r)
					}
					if before != nil && compareReadings(*before, r) >= 0 {
						t.Error(i, h, k, *before, r)
					}
					before = &r
				}
			}
		}
	}
}

// ways are the readings of a hand for a kind, without Last, each once.
func ways(s api.Set, forms []api.Form, h api.Hand, last int) []api.Reading {
	l := shape.Readings(s, forms, h, last)
	for i := range l {
		l[i].Last = 0
	}
	return slices.CompactFunc(l, sameReading)
}

// TestWinsAndReadings (P2.8): a hand wins if it has a reading for some kind, and has the same ones for each kind of Bag.
func TestWinsAndReadings(t *testing.T) {
	for i, s := range sets() {
		forms := formsFor(s)
		wins, losses := 0, 0
		for _, h := range hands(s, forms, 60) {
			var first []api.Reading
			seen := false
			for k, n := range h.Bag {
				l := ways(s, forms, h, k)
				if n > 0 && !seen {
					first, seen = l, true
				}
				if n > 0 && !sameReadings(l, first) || n == 0 && len(l) > 0 {
					t.Error(i, h, k, l, first)
				}
			}
			if shape.Wins(s, forms, h) != (len(first) > 0) {
				t.Error(i, h, first)
			}
			if len(first) > 0 {
				wins++
			} else {
				losses++
			}
		}
		if wins < 10 || losses < 10 {
			t.Error(i, "too few hands:", wins, losses)
		}
	}
}

// TestWaitsAndWins (P2.9): a hand at rest waits for the kinds with one more tile of which it is valid and wins.
func TestWaitsAndWins(t *testing.T) {
	for i, s := range sets() {
		forms := formsFor(s)
		for _, h := range hands(s, forms, 12) {
			won := shape.Wins(s, forms, h)
			for k := range h.Bag {
				if h.Bag[k] == 0 {
					continue
				}
				rest := shape.Copy(h)
				rest.Bag[k]--
				waits := shape.Waits(s, forms, rest)
				if won && !slices.Contains(waits, k) {
					t.Error(i, rest, waits, "not for", k)
				}
				var want []int
				for x := range h.Bag {
					more := shape.Copy(rest)
					more.Bag[x]++
					if shape.CheckHand(s, more) == api.OK && shape.Wins(s, forms, more) {
						want = append(want, x)
					}
				}
				if !slices.Equal(waits, want) {
					t.Error(i, rest, waits, want)
				}
			}
			if l := shape.Waits(s, forms, h); len(l) != 0 {
				t.Error(i, h, "is full", l)
			}
		}
	}
}

// TestOneFormMore (P2.10): a form more at the end adds its readings behind the others.
func TestOneFormMore(t *testing.T) {
	for i, s := range sets() {
		forms := formsFor(s)
		for _, h := range hands(s, forms, 12) {
			for k := range h.Bag {
				for n := 1; n < len(forms); n++ {
					want := shape.Readings(s, forms[:n], h, k)
					for _, r := range shape.Readings(s, forms[n:n+1], h, k) {
						r.Form = n
						want = append(want, r)
					}
					if l := shape.Readings(s, forms[:n+1], h, k); !sameReadings(l, want) {
						t.Error(i, h, k, n, l, want)
					}
				}
			}
		}
	}
}

// turned is a hand and forms after their kinds were turned into others; back says of which kind a run begins that began with another one.
func turned(s api.Set, forms []api.Form, h api.Hand, turn func(int) int, back int) ([]api.Form, api.Hand) {
	var list []api.Form
	for _, f := range forms {
		var kinds []int
		for _, k := range f.Kinds {
			kinds = append(kinds, turn(k))
		}
		slices.Sort(kinds)
		list = append(list, api.Form{What: f.What, Kinds: kinds, Again: f.Again})
	}
	x := api.Hand{Bag: bag(s)}
	for k, n := range h.Bag {
		x.Bag[turn(k)] = n
	}
	for _, m := range h.Melds {
		if m.What == api.Chow {
			m.Kind += back
		}
		m.Kind = turn(m.Kind)
		x.Melds = append(x.Melds, m)
	}
	return list, x
}

// checkTurned asks whether a hand has as many readings, and the same waits, after it was turned.
func checkTurned(t *testing.T, s api.Set, forms []api.Form, h api.Hand, turn func(int) int, back int) {
	t.Helper()
	list, x := turned(s, forms, h, turn, back)
	for k := range h.Bag {
		if a, b := len(shape.Readings(s, forms, h, k)), len(shape.Readings(s, list, x, turn(k))); a != b {
			t.Error(h, x, k, a, b)
		}
		if h.Bag[k] == 0 {
			continue
		}
		h.Bag[k]--
		x.Bag[turn(k)]--
		var want []int
		for _, w := range shape.Waits(s, forms, h) {
			want = append(want, turn(w))
		}
		slices.Sort(want)
		if l := shape.Waits(s, list, x); !slices.Equal(l, want) {
			t.Error(h, x, l, want)
		}
		h.Bag[k]++
		x.Bag[turn(k)]++
	}
}

// TestSymmetry (P2.11): mirrored hands, and hands with two suits swapped.
func TestSymmetry(t *testing.T) {
	for _, s := range sets() {
		forms := formsFor(s)
		level := len(slices.Compact(slices.Clone(s.Suits))) == 1
		mirrored := forms
		if !level {
			mirrored = slices.DeleteFunc(slices.Clone(forms), func(f api.Form) bool { return f.What == api.FormKnitted })
		}
		for _, h := range hands(s, forms, 10) {
			checkTurned(t, s, mirrored, h, func(k int) int { return tile.Mirror(s, k) }, 2)
			for a := range s.Suits {
				checkTurned(t, s, forms, h, func(k int) int { return tile.Swap(s, k, a, 0) }, 0)
			}
		}
	}
}

// TestMeldsInBag (P2.12): with a declared chow or pung in Bag instead, a winning hand wins with that group.
func TestMeldsInBag(t *testing.T) {
	many := 0
	for i, s := range sets() {
		for _, h := range hands(s, form(api.FormMelds), 200) {
			if !shape.Wins(s, form(api.FormMelds), h) {
				continue
			}
			for n, m := range h.Melds {
				if m.What == api.Kong {
					continue
				}
				many++
				x := shape.Copy(h)
				x.Melds = slices.Delete(x.Melds, n, n+1)
				for _, k := range shape.Tiles(s, m) {
					x.Bag[k]++
				}
				m.Open = false
				l := shape.Readings(s, form(api.FormMelds), x, m.Kind)
				if !slices.ContainsFunc(l, func(r api.Reading) bool { return slices.Contains(r.Groups[len(x.Melds):], m) }) {
					t.Error(i, h, m, l)
				}
			}
		}
	}
	if many < 100 {
		t.Error("too few melds:", many)
	}
}

// TestCompleteness (P2.13): a hand that is put together from melds and a pair has a reading with just these.
func TestCompleteness(t *testing.T) {
	many, d := 0, dice(13)
	for i, s := range sets() {
		for range 200 {
			h := api.Hand{Bag: bag(s)}
			var concealed []api.Group
			for n := range s.Melds + 1 {
				what := api.Pair
				if n < s.Melds {
					what = api.Chow + d.below(3)
				}
				g, _ := found(s, h, &d, what)
				if what == api.Kong || what < api.Kong && d.below(3) == 0 {
					g.Open = what != api.Kong || d.below(2) == 0
					h.Melds = append(h.Melds, g)
					continue
				}
				concealed = append(concealed, g)
				for _, k := range kindsOf(s, g) {
					h.Bag[k]++
				}
			}
			if !shape.Full(s, h) {
				continue
			}
			many++
			slices.SortFunc(concealed, func(a, b api.Group) int { return cmp.Or(a.What-b.What, a.Kind-b.Kind) })
			want := read(len(h.Melds), slices.Concat(h.Melds, concealed)...)
			if k := concealed[0].Kind; !shape.Is(s, form(api.FormMelds), h, k, want) || !shape.Wins(s, form(api.FormMelds), h) {
				t.Error(i, h, want, shape.Readings(s, form(api.FormMelds), h, k))
			}
		}
	}
	if many < 300 {
		t.Error("too few hands:", many)
	}
}

// TestFormsOfPairs (P2.14): who wins by different pairs has no or two tiles of each kind; by other forms without melds, no declared meld.
func TestFormsOfPairs(t *testing.T) {
	won := map[int]int{}
	for i, s := range sets() {
		forms := formsFor(s)
		for _, h := range hands(s, forms, 60) {
			for _, f := range forms {
				if !shape.Wins(s, []api.Form{f}, h) {
					continue
				}
				won[f.What]++
				odd := slices.ContainsFunc(h.Bag, func(n int) bool { return n != 0 && n != 2 })
				if f.What == api.FormPairs && !f.Again && odd {
					t.Error(i, h, "wins by pairs")
				}
				bare := f.What != api.FormMelds && f.What != api.FormStraight
				if bare && len(h.Melds) > 0 {
					t.Error(i, h, "wins with declared melds by", f)
				}
			}
		}
	}
	for what := api.FormMelds; what <= api.FormList; what++ {
		if won[what] < 10 {
			t.Error("too few hands win by the form", what)
		}
	}
}

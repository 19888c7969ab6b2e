package tile_test

import (
	"slices"
	"strings"
	"testing"

	"sparrow/api"
	"sparrow/tile"
)

// plain are faces of kinds, none of them red.
func plain(kinds ...int) []api.Face {
	var l []api.Face
	for _, k := range kinds {
		l = append(l, api.Face{Kind: k})
	}
	return l
}

// TestBagErrors (P1.3): tile by tile, ErrRange before ErrExists; flowers count for the errors, too.
func TestBagErrors(t *testing.T) {
	for i, c := range []struct {
		s     api.Set
		tiles []int
		want  api.Errno
	}{
		{small(), []int{4, 4}, api.ErrExists}, {small(), []int{0, 1, 2, 0}, api.ErrExists}, {small(), []int{16}, api.ErrRange}, {small(), []int{-1}, api.ErrRange},
		{small(), []int{16, 4, 4}, api.ErrRange}, {small(), []int{4, 4, 16}, api.ErrExists}, {small(), []int{16, 16}, api.ErrRange}, {small(), append(count(16), 0), api.ErrExists},
		{garden(), []int{143, 143}, api.ErrExists}, {garden(), []int{136, 0, 136}, api.ErrExists}, {garden(), []int{144}, api.ErrRange}, {big(), []int{136}, api.ErrRange},
	} {
		bag, e := tile.Bag(c.s, c.tiles)
		faces, f := tile.Faces(c.s, c.tiles)
		if e != c.want || f != c.want || len(bag) != 0 || len(faces) != 0 {
			t.Error(i, bag, e, faces, f)
		}
	}
}

// TestBag (P1.3): a count for each plain kind, none for flowers.
func TestBag(t *testing.T) {
	for i, c := range []struct {
		s           api.Set
		tiles, want []int
	}{
		{small(), []int{4, 5, 15, 0}, []int{1, 2, 0, 1}}, {small(), nil, []int{0, 0, 0, 0}}, {small(), []int{}, []int{0, 0, 0, 0}},
		{small(), []int{12, 15, 13, 14, 8}, []int{0, 0, 1, 4}}, {honours(), []int{28, 27, 0}, []int{1, 0, 0, 0, 0, 0, 1}},
	} {
		if bag, e := tile.Bag(c.s, c.tiles); e != api.OK || !slices.Equal(bag, c.want) {
			t.Error(i, bag, e)
		}
	}
}

// TestFaces (P1.3): the faces are in the order of the tiles.
func TestFaces(t *testing.T) {
	for i, c := range []struct {
		s     api.Set
		tiles []int
		want  []api.Face
	}{
		{big(), []int{17, 16, 0}, []api.Face{{Kind: 4}, {Kind: 4, Red: true}, {Kind: 0}}}, {big(), nil, nil},
		{garden(), []int{143, 0, 1, 136, 132}, []api.Face{{Kind: 41}, {Kind: 0, Red: true}, {Kind: 0}, {Kind: 34}, {Kind: 33, Red: true}}},
	} {
		if l, e := tile.Faces(c.s, c.tiles); e != api.OK || !slices.Equal(l, c.want) {
			t.Error(i, l, e)
		}
	}
	for i, s := range sets() {
		l, e := tile.Faces(s, count(tile.Size(s)))
		for n, f := range l {
			if f.Kind != tile.Kind(s, n) || f.Red != tile.Red(s, n) {
				t.Error(i, n, f)
			}
		}
		if e != api.OK || len(l) != tile.Size(s) {
			t.Error(i, e)
		}
	}
}

// TestBagsAddUp (P1.12): the bag of all tiles has Copies of each kind; bags of parts are together the bag of the list.
func TestBagsAddUp(t *testing.T) {
	for i, s := range sets() {
		all := tile.Wall(s, uint64(i))
		whole, e := tile.Bag(s, all)
		if e != api.OK || len(whole) != tile.Kinds(s) || slices.ContainsFunc(whole, func(n int) bool { return n != s.Copies }) {
			t.Error(i, whole, e)
		}
		for cut := range all {
			list := all[:len(all)-cut/3]
			end := min(cut, len(list))
			sum, _ := tile.Bag(s, list)
			a, _ := tile.Bag(s, list[:end])
			b, _ := tile.Bag(s, list[end:])
			for k := range sum {
				if a[k]+b[k] != sum[k] {
					t.Error(i, cut, k)
				}
			}
		}
	}
}

// TestNotation (P1.4): texts of faces, and the faces of the texts.
func TestNotation(t *testing.T) {
	mixed := plain(0, 1, 2, 4, 4, 27, 31)
	mixed[3].Red = true
	for i, c := range []struct {
		s    api.Set
		l    []api.Face
		text string
	}{
		{big(), mixed, "123m5M5m1w1d"}, {big(), nil, ""}, {big(), plain(0, 0, 0), "111m"}, {big(), plain(0, 9, 0, 1), "1m1p12m"}, {big(), plain(8, 0, 17, 26, 30, 33), "91m9p9s4w3d"},
		{big(), []api.Face{{Kind: 4, Red: true}, {Kind: 4, Red: true}, {Kind: 13, Red: true}, {Kind: 22, Red: true}}, "55M5P5S"}, {big(), []api.Face{{Kind: 4}, {Kind: 4, Red: true}, {Kind: 5}}, "5m5M6m"},
		{garden(), plain(41, 34, 33, 27), "81f3d1w"}, {garden(), []api.Face{{Kind: 27, Red: true}, {Kind: 27}, {Kind: 33, Red: true}, {Kind: 33}, {Kind: 34}}, "1W1w3D3d1f"},
		{uneven(), []api.Face{{Kind: 0, Red: true}, {Kind: 9, Red: true}, {Kind: 12, Red: true}, {Kind: 15}}, "1M9P1W2f"}, {honours(), []api.Face{{Kind: 0}, {Kind: 6, Red: true}, {Kind: 6}, {Kind: 7}}, "1w3D3d1f"},
	} {
		text, e := tile.Text(c.s, c.l)
		if text != c.text || e != api.OK {
			t.Error(i, text, e)
		}
		l, e := tile.Read(c.s, c.text)
		if !slices.Equal(l, c.l) || e != api.OK {
			t.Error(i, l, e)
		}
	}
}

// TestTextErrors (P1.4): face by face, ErrRange before ErrKind.
func TestTextErrors(t *testing.T) {
	for i, c := range []struct {
		s    api.Set
		l    []api.Face
		want api.Errno
	}{
		{big(), plain(34), api.ErrRange}, {big(), plain(-1), api.ErrRange}, {big(), plain(0, 34), api.ErrRange}, {big(), []api.Face{{Kind: 34, Red: true}}, api.ErrRange}, {big(), []api.Face{{Kind: 5, Red: true}}, api.ErrKind},
		{big(), []api.Face{{Kind: 0, Red: true}, {Kind: 34}}, api.ErrKind}, {big(), []api.Face{{Kind: 34}, {Kind: 0, Red: true}}, api.ErrRange}, {big(), []api.Face{{Kind: 4, Red: true}, {Kind: 27, Red: true}}, api.ErrKind},
		{garden(), []api.Face{{Kind: 34, Red: true}}, api.ErrKind}, {garden(), plain(42), api.ErrRange}, {uneven(), []api.Face{{Kind: 1, Red: true}}, api.ErrKind},
	} {
		if text, e := tile.Text(c.s, c.l); e != c.want || text != "" {
			t.Error(i, text, e)
		}
	}
}

// TestReadForm (P1.4): ErrForm for what is no text of groups, also if a face would be wrong before.
func TestReadForm(t *testing.T) {
	for _, text := range []string{
		"m", "1", "12", "1m2", "1m2m", "1M2M", "5p5P5P", "1mm", "m1", "0m", "10m", "1m0p", "1x", "1F", "8F", "1M1F", "1é", "１m", "1m１", "1m ", " 1m", "1m 2p", "1m\n", "1m\x00", "1\xffm", "1m\xff", "-1m", "+1m", "1Mm",
		"9f0m", "4M1x", "9w9d9", "5w5w", "1m2p3s3s", "1e", "1n", "1q", "1c", "1E", ":m", "/m",
	} {
		for i, s := range []api.Set{garden(), small()} {
			if l, e := tile.Read(s, text); e != api.ErrForm || len(l) != 0 {
				t.Errorf("%d, %q: %v %v", i, text, l, e)
			}
		}
	}
}

// TestReadErrors (P1.4): face by face, ErrRange for a kind or a suit that there is not, then ErrKind.
func TestReadErrors(t *testing.T) {
	for i, c := range []struct {
		s    api.Set
		text string
		want api.Errno
	}{
		{big(), "5w", api.ErrRange}, {big(), "4d", api.ErrRange}, {big(), "1f", api.ErrRange}, {big(), "4M", api.ErrKind}, {big(), "1W", api.ErrKind}, {big(), "1D", api.ErrKind}, {big(), "5W", api.ErrRange}, {big(), "4D", api.ErrRange},
		{big(), "45M", api.ErrKind}, {big(), "54M", api.ErrKind}, {big(), "4M9d", api.ErrKind}, {big(), "9d4M", api.ErrRange}, {big(), "123m5w", api.ErrRange}, {garden(), "9f", api.ErrRange}, {garden(), "12345678f", api.OK},
		{small(), "1p", api.ErrRange}, {small(), "1s", api.ErrRange}, {small(), "1P", api.ErrRange}, {small(), "4m", api.ErrRange}, {small(), "4M", api.ErrRange}, {small(), "1M", api.ErrKind}, {small(), "1w", api.ErrRange}, {small(), "2d", api.ErrRange}, {small(), "2M", api.OK},
		{uneven(), "2m", api.ErrRange}, {uneven(), "3s", api.ErrRange}, {uneven(), "9p", api.OK}, {uneven(), "1d", api.ErrRange}, {honours(), "1m", api.ErrRange}, {honours(), "2f", api.ErrRange},
	} {
		if l, e := tile.Read(c.s, c.text); e != c.want || e != api.OK && len(l) != 0 {
			t.Error(i, c.text, l, e)
		}
	}
}

// anyFaces throws a list of valid faces.
func anyFaces(s api.Set, d *dice) []api.Face {
	var l []api.Face
	for range d.below(20) {
		f := api.Face{Kind: d.below(allKinds(s))}
		f.Red = slices.Contains(s.Reds, f.Kind) && d.below(2) == 0
		l = append(l, f)
		if d.below(3) == 0 {
			l = append(l, f)
		}
	}
	return l
}

// TestTextsAndFaces (P1.10): from faces to a text and back.
func TestTextsAndFaces(t *testing.T) {
	var d dice
	for i, s := range sets() {
		for range 200 {
			l := anyFaces(s, &d)
			text, e := tile.Text(s, l)
			back, f := tile.Read(s, text)
			if e != api.OK || f != api.OK || !slices.Equal(l, back) {
				t.Fatal(i, l, text, back, e, f)
			}
		}
	}
}

// TestFacesAndTexts (P1.10): a text that can be read is the text of what was read.
func TestFacesAndTexts(t *testing.T) {
	const signs = "1234mpswdfMPSWD59F"
	var d dice
	for i, s := range sets() {
		read := 0
		for range 3000 {
			var text []byte
			for range 1 + d.below(6) {
				text = append(text, signs[d.below(len(signs))])
			}
			l, e := tile.Read(s, string(text))
			if e != api.OK {
				continue
			}
			read++
			if back, f := tile.Text(s, l); f != api.OK || back != string(text) {
				t.Error(i, string(text), back, f)
			}
		}
		if read == 0 {
			t.Error(i, "nothing could be read")
		}
	}
}

// TestLongTexts (P1.4): texts may be longer than a set has tiles.
func TestLongTexts(t *testing.T) {
	text := strings.Repeat("1112345678999m1w", 5000)
	l, e := tile.Read(big(), text)
	back, f := tile.Text(big(), l)
	if e != api.OK || f != api.OK || len(l) != 14*5000 || back != text {
		t.Error(len(l), e, f)
	}
}

// TestListsAreKept (R4): bags and faces share no memory, and arguments stay as they are.
func TestListsAreKept(t *testing.T) {
	tiles, memory := roomy([]int{3, 7, 16})
	was := slices.Clone(memory)
	a, _ := tile.Bag(big(), tiles)
	b, _ := tile.Bag(big(), tiles)
	a[0] = 77
	l, _ := tile.Faces(big(), tiles)
	m, _ := tile.Faces(big(), tiles)
	l[0].Kind = 77
	if b[0] != 1 || m[0].Kind != 0 || !slices.Equal(memory, was) {
		t.Error(b, m, memory)
	}
	if orphans := tile.Orphans(small()); len(orphans) != 3 {
		t.Error(orphans)
	} else if orphans[0] = 9; tile.Orphans(small())[0] != 0 {
		t.Error("Orphans shares memory")
	}
}

package house_test

import (
	"fmt"
	"regexp"
	"slices"
	"strings"
	"testing"

	"sparrow/api"
	"sparrow/house"
	"sparrow/tile"
)

// house is a valid house with all sorts of rules.
func (d *dice) house() api.House {
	s := sets()[d.below(5)]
	kinds := tile.Kinds(s)
	h := bare(s)
	for _, f := range formsFor(s) {
		if d.luck() || len(h.Forms) == 0 {
			h.Forms = append(h.Forms, f)
		}
	}
	many := d.below(5)
	for i := range many {
		p := api.Pattern{Name: fmt.Sprint("p-", i), Closed: d.below(1001), Open: d.below(4)}
		if d.luck() {
			p.Cond = d.cond(kinds)
		}
		for j := range many {
			if j != i && d.below(3) == 0 {
				p.Excludes = append(p.Excludes, j)
			}
			if j != i && d.below(3) == 0 {
				p.Implies = append(p.Implies, j)
			}
		}
		h.Patterns = append(h.Patterns, p)
	}
	if d.luck() {
		h.Minor = d.number(kinds, 2)
	}
	h.Least = d.below(1001)
	h.Scale = api.Scale{Base: d.below(1001), Double: d.luck(), Round: 1 + d.below(10000)}
	for i := range d.below(4) {
		h.Scale.Limits = append(h.Scale.Limits, api.Limit{From: 1 + 9*i, Points: 1000 * (i / 2)})
	}
	h.Pay = d.pay(s)
	h.Play = api.Play{
		Chows: d.luck(), Heads: 1 + d.below(3), Riichi: d.luck(), Last: d.below(145), Furiten: d.luck(), Rob: d.below(3), Kongs: d.below(17), Nines: d.below(35),
		Winds: d.luck(), Riichis: d.luck(), Swap: d.luck(), Time: 1 + d.below(1000), Foul: 1 + d.below(2), Indicators: d.below(min(5, s.Dead/2) + 1), Show: d.luck(), Under: d.luck(),
	}
	return h
}

func (d *dice) cond(kinds int) []api.Node {
	if d.luck() {
		return d.truth(kinds, 3)
	}
	return d.number(kinds, 3)
}

func (d *dice) pay(s api.Set) api.Pay {
	p := api.Pay{
		Mode: 1 + d.below(3), Dealer: d.luck(), Basic: d.below(10), Counter: d.below(1001), Stick: d.below(1000001), Pool: 6 * d.below(100), Foul: d.below(9),
		Start: d.below(30000), Rounds: 1 + d.below(16), Stay: d.below(8), Bust: d.luck(),
	}
	if d.luck() {
		n := d.below(1000001)
		p.Places = []int{n, 0, 0, -n}[4-s.Players:]
		p.Places[0] = n
	}
	for range d.below(4) {
		f := api.Feed{Many: 1 + d.below(s.Melds), Kinds: d.some(tile.Kinds(s))}
		if len(f.Kinds) > 0 {
			p.Feeds = append(p.Feeds, f)
		}
	}
	return p
}

// spaced writes numbers, truths and words with blanks between them, as fmt does it; truths as 1 and 0.
func spaced(l ...any) string {
	for i, x := range l {
		if holds, ok := x.(bool); ok {
			l[i] = one(holds)
		}
		if list, ok := x.([]int); ok {
			l[i] = strings.Trim(fmt.Sprint(list), "[]")
		}
	}
	return strings.TrimRight(strings.ReplaceAll(fmt.Sprintln(l...), "  ", " "), " \n") + "\n"
}

func opWords() []string {
	return strings.Fields("0 true not and or least form flag self closed last number sum times if up groups tiles bonus wind twins row colours suits waits")
}

// nodesText is the text of a condition, by the fields that the chapter names for each Op.
func nodesText(l []api.Node) string {
	var words []string
	for _, n := range l {
		w := opWords()[n.Op]
		kinds := strings.ReplaceAll(strings.Trim(fmt.Sprint(n.Kinds), "[]"), " ", ",")
		if kinds == "" {
			kinds = "-"
		}
		switch n.Op {
		case 5, 6, 7, 11, 15, 20:
			w += fmt.Sprint(" ", n.N)
		case 10, 19:
			w += fmt.Sprint(" ", n.What, " ", n.N)
		case 16:
			w += fmt.Sprint(" ", n.What, " ", n.Open, " ", one(n.All), " ", kinds)
		case 17:
			w += " " + kinds
		case 21, 22:
			w += fmt.Sprint(" ", n.What, " ", n.N, " ", n.M)
		}
		words = append(words, w)
	}
	return strings.Join(words, " ")
}

// written is the text of a house, row by row as the chapter says.
func written(h api.House) string {
	s, p, y := h.Set, h.Pay, h.Play
	t := spaced("set", s.Players, s.Melds, s.Copies, s.Dead, s.Winds, s.Dragons, s.Flowers) + spaced("suits", s.Suits) + spaced("reds", s.Reds)
	for _, f := range h.Forms {
		again := map[bool]string{true: "again"}[f.Again]
		t += spaced("form", strings.Fields("0 melds pairs each knitted straight list")[f.What], again, f.Kinds)
	}
	for _, x := range h.Patterns {
		t += spaced("pattern", x.Name, x.Closed, x.Open)
		if len(x.Excludes) > 0 {
			t += spaced("excludes", x.Excludes)
		}
		if len(x.Implies) > 0 {
			t += spaced("implies", x.Implies)
		}
		if len(x.Cond) > 0 {
			t += "when " + nodesText(x.Cond) + "\n"
		}
	}
	if len(h.Minor) > 0 {
		t += "minor " + nodesText(h.Minor) + "\n"
	}
	t += spaced("least", h.Least) + spaced("scale", h.Scale.Base, h.Scale.Round, h.Scale.Double)
	for _, l := range h.Scale.Limits {
		t += spaced("limit", l.From, l.Points)
	}
	t += spaced("pay", p.Mode, p.Dealer, p.Basic, p.Counter, p.Stick, p.Pool, p.Foul, p.Start, p.Rounds, p.Stay, p.Bust)
	if len(p.Places) > 0 {
		t += spaced("places", p.Places)
	}
	for _, f := range p.Feeds {
		t += spaced("feed", f.Many, f.Kinds)
	}
	return t + spaced("play", y.Chows, y.Heads, y.Riichi, y.Last, y.Furiten, y.Rob, y.Kongs, y.Nines, y.Winds, y.Riichis, y.Swap, y.Time, y.Foul, y.Indicators, y.Show, y.Under)
}

// TestText (P4.3, P4.5): texts are as the chapter says, and are read as the house that was written.
func TestText(t *testing.T) {
	d := dice(9)
	houses := []api.House{shown(), full()}
	for range 300 {
		houses = append(houses, d.house())
	}
	for i, h := range houses {
		text, e := house.Text(h)
		if e != api.OK || text != written(h) {
			t.Fatalf("%d: %v\n%s\ninstead of\n%s", i, e, text, written(h))
		}
		x, line, e := house.Parse(text)
		if e != api.OK || line != 0 || !house.SameHouse(x, h) {
			t.Fatalf("%d: %v in line %d of\n%s", i, e, line, text)
		}
	}
}

// TestTextExample (P4.3): the chapter's example, and the house full with all rows.
func TestTextExample(t *testing.T) {
	for i, c := range []struct {
		h    api.House
		want string
	}{
		{shown(), "set 3 1 4 2 0 1 0\nsuits 3\nreds 1\nform melds\npattern plain 1 1\npattern dragon 2 1\nwhen groups 6 0 1 3\npattern quiet 1 0\nwhen and self closed\nminor times number 10 sum number 1 waits\nleast 1\nscale 1 1 0\npay 1 0 0 0 0 0 0 0 1 0 0\nplay 0 1 0 0 0 0 0 0 0 0 0 5 1 0 0 0\n"},
		{full(), "set 4 4 4 14 4 3 8\nsuits 9 8 9\nreds 4 13 22\nform melds\nform pairs again\nform each 0 8 9 16 17 25 26 27 28 29 30 31 32\npattern all-pungs 2 3\nexcludes 1 2\nimplies 1\nwhen least 4 groups 6 2 1 0,8\npattern rows 4 1\nexcludes 0\nimplies 2\nwhen row 1 3 3\npattern a 1 1\nexcludes 0\nimplies 0 1\nwhen tiles -\n" +
			"minor up 10 number 25\nleast 1\nscale 8 100 1\nlimit 5 2000\nlimit 6 3000\npay 2 1 8 100 1000 3000 8000 25000 2 7 1\nplaces 30 10 -10 -30\nfeed 3 30 31 32\nfeed 2 26 27\nplay 1 2 1 4 1 1 4 9 1 1 1 7 2 5 1 1\n"},
		{bare(api.Set{Players: 3, Winds: 4, Dragons: 3, Copies: 4, Melds: 1}, api.Form{What: 4}), "set 3 1 4 0 4 3 0\nsuits\nreds\nform knitted\nleast 0\nscale 0 1 0\npay 1 0 0 0 0 0 0 0 1 0 0\nplay 0 1 0 0 0 0 0 0 0 0 0 1 1 0 0 0\n"},
	} {
		if text, e := house.Text(c.h); e != api.OK || text != c.want {
			t.Errorf("%d: %v\n%s", i, e, text)
		}
		if h, line, e := house.Parse(c.want); e != api.OK || line != 0 || !house.SameHouse(h, c.h) {
			t.Error(i, line, e)
		}
	}
}

// TestParseErrors (P4.3): which row is not as said, and which house is not valid.
func TestParseErrors(t *testing.T) {
	text, _ := house.Text(full())
	for i, c := range []struct {
		old, new string
		line     int
		want     api.Errno
	}{
		{"", "", 0, api.OK}, {"", "\n", 1, api.ErrForm}, {"", " ", 1, api.ErrForm}, {"set", "sets", 1, api.ErrForm}, {"set", "Set", 1, api.ErrForm}, {"set 4", "set  4", 1, api.ErrForm}, {"14 4 3 8", "14 4 3", 1, api.ErrForm}, {"14 4 3 8", "14 4 3 8 0", 1, api.ErrForm}, {"14 4 3 8", "14 4 3 8 ", 1, api.ErrForm}, {"set 4 4", "set 4\t4", 1, api.ErrForm}, {"set 4 4 4 14", "set 4 4 4 14\r", 1, api.ErrForm},
		{"set 4", "set 5", 0, api.ErrRange}, {"set 4 4 4 14", "set 4 4 4 99", 0, api.ErrRange}, {"suits 9 8 9", "suits", 0, api.ErrRange}, {"suits 9 8 9", "suits 9 8 9 9", 0, api.ErrFull}, {"suits 9 8 9", "suits ", 2, api.ErrForm}, {"suits 9 8 9\n", "", 2, api.ErrForm}, {"reds 4 13 22", "reds 4 22 13", 0, api.ErrOrder}, {"reds 4 13 22\n", "", 3, api.ErrForm}, {"reds 4", "reds -4", 0, api.ErrRange}, {"reds 4", "reds 04", 3, api.ErrForm}, {"reds 4", "reds +4", 3, api.ErrForm}, {"reds 4", "reds -0", 3, api.ErrForm}, {"reds 4", "reds 0", 0, api.OK},
		{"reds 4", "reds 4,5", 3, api.ErrForm}, {"reds 4", "reds 4a", 3, api.ErrForm}, {"reds 4", "reds -", 3, api.ErrForm}, {"reds 4", "reds --4", 3, api.ErrForm}, {"reds 4", "reds 0x4", 3, api.ErrForm}, {"reds 4", "reds 4_0", 3, api.ErrForm}, {"reds 4", "reds 4.", 3, api.ErrForm}, {"reds 4", "reds ٤", 3, api.ErrForm}, {"reds 4 13", "reds 4 13\nreds", 4, api.ErrForm},
		{"least 1", "least 999999999", 0, api.ErrRange}, {"least 1", "least -999999999", 0, api.ErrRange}, {"least 1", "least 1000000000", 20, api.ErrForm}, {"least 1", "least -1000000000", 20, api.ErrForm}, {"least 1", "least 9999999999999999999999", 20, api.ErrForm}, {"least 1", "least 18446744073709551617", 20, api.ErrForm}, {"least 1", "least 000000001", 20, api.ErrForm}, {"least 1", "least 1 1", 20, api.ErrForm}, {"least 1", "least", 20, api.ErrForm},
		{"form melds", "form", 4, api.ErrForm}, {"form melds", "form chows", 4, api.ErrForm}, {"form melds", "form 1", 4, api.ErrForm}, {"form melds", "form melds again", 0, api.ErrForm}, {"form melds", "form melds 1", 0, api.ErrForm}, {"form melds", "form melds again 1", 0, api.ErrForm}, {"form melds", "form melds 1 again", 4, api.ErrForm}, {"form melds", "form again", 4, api.ErrForm}, {"form melds", "form again melds", 4, api.ErrForm}, {"form melds", "form melds again again", 4, api.ErrForm}, {"form melds", "form knitted", 0, api.OK}, {"form melds", "form straight", 0, api.ErrForm}, {"form melds", "form list", 0, api.ErrForm}, {"form melds", "form ", 4, api.ErrForm}, {"form melds", "form melds ", 4, api.ErrForm}, {"form pairs again", "form pairs again ", 5, api.ErrForm}, {"form pairs again", "form pairs", 0, api.OK},
		{"form each 0 8 9", "form each 0 8", 0, api.ErrForm}, {"form each", "form melds\nform each", 0, api.OK}, {"form each", strings.Repeat("form melds\n", 5) + "form each", 0, api.OK}, {"form each", strings.Repeat("form melds\n", 6) + "form each", 0, api.ErrFull}, {"form melds", "pattern b 1 1\nform melds", 5, api.ErrForm},
		{"pattern all-pungs 2 3", "pattern all-pungs 2", 7, api.ErrForm}, {"pattern all-pungs 2 3", "pattern all-pungs 2 3 4", 7, api.ErrForm}, {"pattern all-pungs 2 3", "pattern 2 3", 7, api.ErrForm}, {"pattern all-pungs 2 3", "pattern  2 3", 7, api.ErrForm}, {"pattern all-pungs 2 3", "pattern", 7, api.ErrForm}, {"pattern all-pungs", "pattern all_pungs", 0, api.ErrForm}, {"pattern all-pungs", "pattern a", 0, api.ErrExists}, {"all-pungs 2 3", "all-pungs 1001 3", 0, api.ErrRange}, {"pattern all-pungs", "pattern -1", 0, api.OK}, {"all-pungs", "abcdefghijklmnopqrstuvwxyz", 0, api.ErrForm},
		{"excludes 1 2", "excludes", 8, api.ErrForm}, {"excludes 1 2", "excludes ", 8, api.ErrForm}, {"excludes 1 2", "excludes 0", 0, api.ErrClash}, {"excludes 1 2", "excludes 9", 0, api.ErrRange}, {"excludes 1 2", "excludes 2 1", 0, api.ErrOrder}, {"excludes 1 2", "excludes 1 2\nexcludes 1", 9, api.ErrForm}, {"excludes 1 2\nimplies 1", "implies 1\nexcludes 1 2", 9, api.ErrForm}, {"implies 1\n", "implies\n", 9, api.ErrForm}, {"implies 1\n", "", 0, api.OK}, {"implies 1\nwhen least 4", "when least 4", 0, api.OK}, {"form melds", "excludes 1\nform melds", 4, api.ErrForm},
		{"when least 4 groups 6 2 1 0,8", "when", 10, api.ErrForm}, {"when least 4 groups 6 2 1 0,8", "when ", 10, api.ErrForm}, {"when least 4 groups 6 2 1 0,8", "when least 4", 0, api.ErrShort}, {"when least 4 groups 6 2 1 0,8", "when least", 10, api.ErrForm}, {"when least 4", "when least 4 5", 10, api.ErrForm}, {"when least 4", "when Least 4", 10, api.ErrForm}, {"when least 4", "when least -4", 0, api.ErrRange}, {"when least 4", "when true", 0, api.ErrLong}, {"when least 4", "when not", 0, api.ErrType},
		{"6 2 1 0,8", "6 2 2 0,8", 10, api.ErrForm}, {"6 2 1 0,8", "6 2 01 0,8", 10, api.ErrForm}, {"6 2 1 0,8", "6 2 1 0 8", 10, api.ErrForm}, {"6 2 1 0,8", "6 2 1", 10, api.ErrForm}, {"6 2 1 0,8", "6 2 1 -", 0, api.OK}, {"6 2 1 0,8", "6 2 1 0", 0, api.OK}, {"6 2 1 0,8", "6 2 0 0", 0, api.OK}, {"6 2 1 0,8", "6 2 1 0,", 10, api.ErrForm}, {"6 2 1 0,8", "6 2 1 ,8", 10, api.ErrForm}, {"6 2 1 0,8", "6 2 1 0,,8", 10, api.ErrForm}, {"6 2 1 0,8", "6 2 1 0,08", 10, api.ErrForm}, {"6 2 1 0,8", "6 2 1 0,-", 10, api.ErrForm}, {"6 2 1 0,8", "6 2 1 0,-8", 0, api.ErrRange}, {"6 2 1 0,8", "6 2 1 8,0", 0, api.ErrOrder}, {"6 2 1 0,8", "6 3 1 0,8", 0, api.ErrRange}, {"6 2 1 0,8", "6 2 1 0,1234567890", 10, api.ErrForm}, {"6 2 1 0,8", "6 2 1 --", 10, api.ErrForm}, {"6 2 1 0,8", "6 2 1 0;8", 10, api.ErrForm},
		{"when row 1 3 3", "when row 1 3 3 0", 14, api.ErrForm}, {"when row 1 3 3", "when row 1 3", 14, api.ErrForm}, {"when row 1 3 3", "when " + strings.Repeat("not ", 59) + "self", 0, api.OK}, {"when row 1 3 3", "when " + strings.Repeat("not ", 60) + "self", 0, api.ErrLong}, {"when tiles -", "when tiles", 18, api.ErrForm}, {"when tiles -", "when tiles - -", 18, api.ErrForm}, {"when tiles -", "when tiles -\nwhen tiles -", 19, api.ErrForm}, {"when tiles -", "when 0", 18, api.ErrForm}, {"when tiles -", "when tiles - ", 18, api.ErrForm}, {"when tiles -", "when self", 0, api.OK},
		{"minor up 10 number 25", "minor", 19, api.ErrForm}, {"minor up 10 number 25", "minor self", 0, api.ErrType}, {"minor up 10 number 25\n", "", 0, api.OK}, {"minor up 10", "minor up 0", 0, api.ErrRange}, {"minor up 10 number 25", "minor number 25\nminor number 25", 20, api.ErrForm}, {"least 1\n", "", 20, api.ErrForm}, {"least 1\n", "least 1\nleast 1\n", 21, api.ErrForm},
		{"scale 8 100 1", "scale 8 100 2", 21, api.ErrForm}, {"scale 8 100 1", "scale 8 100 true", 21, api.ErrForm}, {"scale 8 100 1", "scale 8 100", 21, api.ErrForm}, {"scale 8 100 1", "scale 8 0 1", 0, api.ErrRange}, {"scale 8 100 1\n", "", 21, api.ErrForm}, {"limit 5 2000", "limit 5", 22, api.ErrForm}, {"limit 5 2000", "limit", 22, api.ErrForm}, {"limit 5 2000", "limit 6 2000", 0, api.ErrOrder}, {"limit 5 2000\nlimit 6 3000\n", "", 0, api.OK}, {"scale 8 100 1\nlimit 5 2000", "limit 5 2000\nscale 8 100 1", 21, api.ErrForm},
		{"pay 2 1 8", "pay 4 1 8", 0, api.ErrKind}, {"pay 2 1 8", "pay 2 2 8", 24, api.ErrForm}, {"25000 2 7 1", "25000 2 7", 24, api.ErrForm}, {"25000 2 7 1", "25000 2 7 1 1", 24, api.ErrForm}, {"25000 2 7 1", "25000 2 7 -1", 24, api.ErrForm}, {"places 30 10 -10 -30", "places", 25, api.ErrForm}, {"places 30 10 -10 -30", "places 30 -30", 0, api.ErrForm}, {"places 30 10 -10 -30", "places 30 10 -10 -31", 0, api.ErrClash}, {"places 30 10 -10 -30\n", "", 0, api.OK}, {"places 30 10 -10 -30", "places 0 0 0 0\nplaces 0 0 0 0", 26, api.ErrForm}, {"places 30 10 -10 -30\nfeed 3 30 31 32", "feed 3 30 31 32\nplaces 30 10 -10 -30", 26, api.ErrForm},
		{"feed 3 30 31 32", "feed", 26, api.ErrForm}, {"feed 3 30 31 32", "feed ", 26, api.ErrForm}, {"feed 3 30 31 32", "feed 3", 0, api.ErrShort}, {"feed 3 30 31 32", "feed 3 ", 26, api.ErrForm}, {"feed 3 30 31 32", "feed 3 31 30", 0, api.ErrOrder}, {"feed 3 30 31 32\nfeed 2 26 27\n", "", 0, api.OK}, {"feed 3 30 31 32", "feed 3 30,31", 26, api.ErrForm},
		{"play 1 2", "play 2 2", 28, api.ErrForm}, {"play 1 2", "play 1 4", 0, api.ErrRange}, {"7 2 5 1 1", "7 2 5 1", 28, api.ErrForm}, {"7 2 5 1 1\n", "7 2 5 1 1", 28, api.ErrForm}, {"7 2 5 1 1\n", "7 2 5 1 1\n\n", 29, api.ErrForm}, {"7 2 5 1 1\n", "7 2 5 1 1\nplay", 29, api.ErrForm}, {"7 2 5 1 1\n", "7 2 5 1 1\n ", 29, api.ErrForm}, {"7 2 5 1 1\n", "7 2 5 1 1 \n", 28, api.ErrForm}, {"7 2 5 1 1\n", "7 2 5 1 1\r\n", 28, api.ErrForm},
		{text, "", 1, api.ErrForm}, {text, "\n", 1, api.ErrForm}, {text, "set", 1, api.ErrForm}, {text, strings.TrimSuffix(text, "\n"), 28, api.ErrForm}, {text, text[:strings.Index(text, "play")], 28, api.ErrForm}, {text, text[:strings.Index(text, "reds")], 3, api.ErrForm}, {text, text[:strings.Index(text, "suits")+3], 2, api.ErrForm}, {text, text + text, 29, api.ErrForm}, {text, strings.ReplaceAll(text, "\n", "\r\n"), 1, api.ErrForm},
	} {
		if !strings.Contains(text, c.old) {
			t.Fatal(c.old)
		}
		changed := strings.Replace(text, c.old, c.new, 1)
		h, line, e := house.Parse(changed)
		if line != c.line || e != c.want {
			t.Errorf("%d: %q in place of %q: line %d, %v", i, c.new, c.old, line, e)
		}
		checkParsed(t, changed, h, e)
	}
}

// checkParsed checks that with an error there is no house, and that without one the text is that of the house.
func checkParsed(t *testing.T, text string, h api.House, e api.Errno) {
	t.Helper()
	if e != api.OK {
		if !house.SameHouse(h, api.House{}) {
			t.Errorf("a house with %v", e)
		}
		return
	}
	if again, e := house.Text(h); e != api.OK || again != text {
		t.Errorf("%v: the text is not that of the house:\n%s", e, text)
	}
}

// TestLongTexts (P4.3): texts of just MaxText bytes are read, longer ones are not.
func TestLongTexts(t *testing.T) {
	h := bare(small(), api.Form{What: 1})
	text, _ := house.Text(h)
	fill := func(n int) string { return text + strings.Repeat("x", n-len(text)-1) + "\n" }
	for i, c := range []struct {
		text string
		line int
		want api.Errno
	}{
		{fill(100000), strings.Count(text, "\n") + 1, api.ErrForm}, {fill(100001), 0, api.ErrLong}, {strings.Repeat("\n", 100001), 0, api.ErrLong}, {strings.Repeat("\n", 100000), 1, api.ErrForm}, {strings.Repeat("form melds\n", 100000), 0, api.ErrLong},
	} {
		if x, line, e := house.Parse(c.text); line != c.line || e != c.want || !house.SameHouse(x, api.House{}) {
			t.Error(i, line, e)
		}
	}
	reds := strings.Replace(text, "reds 1", "reds 1"+strings.Repeat(" 2", (100000-len(text))/2), 1)
	if _, line, e := house.Parse(reds); line != 0 || e != api.ErrOrder {
		t.Error(line, e)
	}
	forms := strings.Replace(text, "form melds\n", strings.Repeat("form melds\n", 9000), 1)
	if _, line, e := house.Parse(forms); line != 0 || e != api.ErrFull {
		t.Error(line, e)
	}
}

// grammar says which rows there are, as regular expressions, and which rows may stand behind each of them.
type grammar struct {
	rows  map[string]*regexp.Regexp
	after map[string]string
}

func newGrammar() grammar {
	num, truth, kinds := `(0|-?[1-9][0-9]{0,8})`, `[01]`, `(-|(0|-?[1-9][0-9]{0,8})(,(0|-?[1-9][0-9]{0,8}))*)`
	expand := func(row string) *regexp.Regexp {
		row = strings.ReplaceAll(row, "NODES", `( (true|not|and|or|least #|form #|flag #|self|closed|last # #|number #|sum|times|if|up #|groups # # ? K|tiles K|bonus|wind # #|twins #|row # # #|colours # # #|suits|waits))+`)
		row = strings.ReplaceAll(row, "LIST", `( #)*`)
		row = strings.ReplaceAll(row, " ? ", " "+truth+" ")
		row = strings.ReplaceAll(row, " ? ", " "+truth+" ")
		row = regexp.MustCompile(` \?$`).ReplaceAllString(row, " "+truth)
		row = strings.ReplaceAll(strings.ReplaceAll(row, "#", num), "K", kinds)
		return regexp.MustCompile("^" + row + "$")
	}
	g := grammar{rows: map[string]*regexp.Regexp{}, after: map[string]string{
		"": "set", "set": "suits", "suits": "reds", "reds": "form pattern minor least", "form": "form pattern minor least", "pattern": "excludes implies when pattern minor least", "excludes": "implies when pattern minor least", "implies": "when pattern minor least",
		"when": "pattern minor least", "minor": "least", "least": "scale", "scale": "limit pay", "limit": "limit pay", "pay": "places feed play", "places": "feed play", "feed": "feed play", "play": "",
	}}
	for _, row := range []string{
		"set # # # # # # #", "suitsLIST", "redsLIST", "form (melds|pairs|each|knitted|straight|list)( again)?LIST", `pattern [^ ]+ # #`, "excludes #LIST", "implies #LIST", "whenNODES", "minorNODES", "least #", "scale # # ?", "limit # #",
		"pay # ? # # # # # # # # ?", "places #LIST", "feed #LIST", "play ? # ? # ? # # # ? ? ? # # # ? ?",
	} {
		first := regexp.MustCompile(`^[a-z]+`).FindString(row)
		g.rows[first] = expand(row)
	}
	return g
}

// bad is the number of the first row that is not as said, from 1 on; 0 if all are.
func (g grammar) bad(text string) int {
	before, line := "", 0
	for text != "" {
		line++
		row, rest, ended := strings.Cut(text, "\n")
		first, _, _ := strings.Cut(row, " ")
		if !ended || !slices.Contains(strings.Fields(g.after[before]), first) || !g.rows[first].MatchString(row) {
			return line
		}
		before, text = first, rest
	}
	if before != "play" {
		return line + 1
	}
	return 0
}

// spoil changes a text a bit: rows and words are taken away, doubled or exchanged, and words are replaced.
func (d *dice) spoil(text string) string {
	rows := strings.SplitAfter(text, "\n")
	i, j := d.below(len(rows)), d.below(len(rows))
	words := strings.Split(rows[i], " ")
	k, l := d.below(len(words)), d.below(len(words))
	odd := []string{"0", "1", "2", "-1", "-", "00", "-0", "01", "+1", "", "1234567890", "123456789", "x", "again", "self", "waits", "tiles", "tiles -", "row 1 2 3", "number 5", "3,4", "3,", "melds", "list", "-,3", "1\n", "groups 1 0 1 2,3"}
	switch d.below(8) {
	case 0:
		rows = slices.Delete(rows, i, i+1)
	case 1:
		rows = slices.Insert(rows, i, rows[j])
	case 2:
		rows[i], rows[j] = rows[j], rows[i]
	case 3:
		rows[i] = strings.Join(slices.Delete(words, k, k+1), " ")
	case 4:
		rows[i] = strings.Join(slices.Insert(words, k, words[l]), " ")
	case 5:
		words[k], words[l] = words[l], words[k]
		rows[i] = strings.Join(words, " ")
	case 6:
		rows[i] = strings.Join(slices.Insert(words, k, odd[d.below(len(odd))]), " ")
	case 7:
		words[k] = odd[d.below(len(odd))]
		rows[i] = strings.Join(words, " ")
	}
	return strings.Join(rows, "")
}

// TestParseAsSaid (P4.3, P4.5): the first row that is not as said is that of the grammar; a text that is read is the text of what was read.
func TestParseAsSaid(t *testing.T) {
	d, g := dice(77), newGrammar()
	met := map[bool]int{}
	for i := range 6000 {
		text, _ := house.Text(d.house())
		for range 1 + d.below(2) {
			text = d.spoil(text)
		}
		want := g.bad(text)
		h, line, e := house.Parse(text)
		if line != want || (want > 0) != (line > 0 && e == api.ErrForm) {
			t.Fatalf("%d: line %d instead of %d, %v, of\n%s", i, line, want, e, text)
		}
		met[e == api.OK]++
		checkParsed(t, text, h, e)
	}
	if met[true] < 100 || met[false] < 100 {
		t.Error(met)
	}
}

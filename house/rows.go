package house

import "sparrow/api"

// The kinds of rows, in the order in which they stand in a text.
const (
	rowSet = iota
	rowSuits
	rowReds
	rowForm
	rowPattern
	rowExcludes
	rowImplies
	rowWhen
	rowMinor
	rowLeast
	rowScale
	rowLimit
	rowPay
	rowPlaces
	rowFeed
	rowPlay
)

// rowWords are the first words of rows.
var rowWords = [...]string{
	rowSet: "set", rowSuits: "suits", rowReds: "reds", rowForm: "form", rowPattern: "pattern", rowExcludes: "excludes", rowImplies: "implies", rowWhen: "when",
	rowMinor: "minor", rowLeast: "least", rowScale: "scale", rowLimit: "limit", rowPay: "pay", rowPlaces: "places", rowFeed: "feed", rowPlay: "play",
}

var formWords = [...]string{
	api.FormMelds: "melds", api.FormPairs: "pairs", api.FormEach: "each", api.FormKnitted: "knitted", api.FormStraight: "straight", api.FormList: "list",
}

// row is a row of a text, over the part of a house that stands there: it says which kind of row it is, and gives pointers to the fields that its words are written from and read into. So what is read is what was written.
type row interface {
	content() (kind int, fields []any)
}

// Fields that are written in a way of their own: the What of a form, its Again, and the Kinds of a node.
type (
	formField  struct{ what *int }
	againField struct{ again *bool }
	kindsField struct{ kinds *[]int }
)

type (
	setRow      struct{ of *api.Set }
	suitsRow    struct{ of *api.Set }
	redsRow     struct{ of *api.Set }
	formRow     struct{ of *api.Form }
	patternRow  struct{ of *api.Pattern }
	excludesRow struct{ of *api.Pattern }
	impliesRow  struct{ of *api.Pattern }
	whenRow     struct{ of *api.Pattern }
	minorRow    struct{ of *api.House }
	leastRow    struct{ of *api.House }
	scaleRow    struct{ of *api.Scale }
	limitRow    struct{ of *api.Limit }
	payRow      struct{ of *api.Pay }
	placesRow   struct{ of *api.Pay }
	feedRow     struct{ of *api.Feed }
	playRow     struct{ of *api.Play }
)

func (r setRow) content() (int, []any) {
	s := r.of
	return rowSet, []any{&s.Players, &s.Melds, &s.Copies, &s.Dead, &s.Winds, &s.Dragons, &s.Flowers}
}

func (r suitsRow) content() (int, []any) { return rowSuits, []any{&r.of.Suits} }

func (r redsRow) content() (int, []any) { return rowReds, []any{&r.of.Reds} }

func (r formRow) content() (int, []any) {
	f := r.of
	return rowForm, []any{formField{&f.What}, againField{&f.Again}, &f.Kinds}
}

func (r patternRow) content() (int, []any) {
	p := r.of
	return rowPattern, []any{&p.Name, &p.Closed, &p.Open}
}

func (r excludesRow) content() (int, []any) { return rowExcludes, []any{&r.of.Excludes} }

func (r impliesRow) content() (int, []any) { return rowImplies, []any{&r.of.Implies} }

func (r whenRow) content() (int, []any) { return rowWhen, []any{&r.of.Cond} }

func (r minorRow) content() (int, []any) { return rowMinor, []any{&r.of.Minor} }

func (r leastRow) content() (int, []any) { return rowLeast, []any{&r.of.Least} }

func (r scaleRow) content() (int, []any) {
	x := r.of
	return rowScale, []any{&x.Base, &x.Round, &x.Double}
}

func (r limitRow) content() (int, []any) { return rowLimit, []any{&r.of.From, &r.of.Points} }

func (r payRow) content() (int, []any) {
	p := r.of
	return rowPay, []any{&p.Mode, &p.Dealer, &p.Basic, &p.Counter, &p.Stick, &p.Pool, &p.Foul, &p.Start, &p.Rounds, &p.Stay, &p.Bust}
}

func (r placesRow) content() (int, []any) { return rowPlaces, []any{&r.of.Places} }

func (r feedRow) content() (int, []any) { return rowFeed, []any{&r.of.Many, &r.of.Kinds} }

func (r playRow) content() (int, []any) {
	p := r.of
	return rowPlay, []any{
		&p.Chows, &p.Heads, &p.Riichi, &p.Last, &p.Furiten, &p.Rob, &p.Kongs, &p.Nines,
		&p.Winds, &p.Riichis, &p.Swap, &p.Time, &p.Foul, &p.Indicators, &p.Show, &p.Under,
	}
}

// nodeFields are the fields that a node uses.
func nodeFields(n *api.Node) []any {
	var fields []any
	u := useOf(n.Op)
	if u.what.used() {
		fields = append(fields, &n.What)
	}
	if u.n.used() {
		fields = append(fields, &n.N)
	}
	if u.m.used() {
		fields = append(fields, &n.M)
	}
	if u.open.used() {
		fields = append(fields, &n.Open)
	}
	if u.all {
		fields = append(fields, &n.All)
	}
	if u.kinds {
		fields = append(fields, kindsField{&n.Kinds})
	}
	return fields
}

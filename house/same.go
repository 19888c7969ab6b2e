package house

import (
	"slices"

	"sparrow/api"
	"sparrow/tile"
)

// SameHouse reports whether two houses, valid or not, are equal; nil lists are equal to empty ones.
func SameHouse(a, b api.House) bool {
	return tile.Same(a.Set, b.Set) && slices.EqualFunc(a.Forms, b.Forms, sameForm) &&
		slices.EqualFunc(a.Patterns, b.Patterns, samePattern) && sameCond(a.Minor, b.Minor) && a.Least == b.Least &&
		sameScale(a.Scale, b.Scale) && samePay(a.Pay, b.Pay) && a.Play == b.Play
}

func sameForm(a, b api.Form) bool {
	return a.What == b.What && a.Again == b.Again && slices.Equal(a.Kinds, b.Kinds)
}

func samePattern(a, b api.Pattern) bool {
	return a.Name == b.Name && a.Closed == b.Closed && a.Open == b.Open && sameCond(a.Cond, b.Cond) &&
		slices.Equal(a.Excludes, b.Excludes) && slices.Equal(a.Implies, b.Implies)
}

func sameCond(a, b []api.Node) bool { return slices.EqualFunc(a, b, sameNode) }

func sameNode(a, b api.Node) bool {
	return a.Op == b.Op && a.What == b.What && a.N == b.N && a.M == b.M && a.Open == b.Open && a.All == b.All && slices.Equal(a.Kinds, b.Kinds)
}

func sameScale(a, b api.Scale) bool {
	return a.Base == b.Base && a.Double == b.Double && a.Round == b.Round && slices.Equal(a.Limits, b.Limits)
}

func samePay(a, b api.Pay) bool {
	return a.Mode == b.Mode && a.Dealer == b.Dealer && a.Basic == b.Basic && a.Counter == b.Counter && a.Stick == b.Stick && a.Pool == b.Pool &&
		a.Foul == b.Foul && a.Start == b.Start && a.Rounds == b.Rounds && a.Stay == b.Stay && a.Bust == b.Bust &&
		slices.Equal(a.Places, b.Places) && slices.EqualFunc(a.Feeds, b.Feeds, sameFeed)
}

func sameFeed(a, b api.Feed) bool { return a.Many == b.Many && slices.Equal(a.Kinds, b.Kinds) }

// CopyHouse returns an equal house that shares no memory with h.
func CopyHouse(h api.House) api.House {
	x := h
	x.Set = tile.Copy(h.Set)
	x.Forms = copied(h.Forms)
	for i, f := range h.Forms {
		x.Forms[i].Kinds = copied(f.Kinds)
	}
	x.Patterns = copied(h.Patterns)
	for i, p := range h.Patterns {
		x.Patterns[i].Cond = copiedCond(p.Cond)
		x.Patterns[i].Excludes = copied(p.Excludes)
		x.Patterns[i].Implies = copied(p.Implies)
	}
	x.Minor = copiedCond(h.Minor)
	x.Scale.Limits = copied(h.Scale.Limits)
	x.Pay.Places = copied(h.Pay.Places)
	x.Pay.Feeds = copied(h.Pay.Feeds)
	for i, f := range h.Pay.Feeds {
		x.Pay.Feeds[i].Kinds = copied(f.Kinds)
	}
	return x
}

func copiedCond(l []api.Node) []api.Node {
	cond := copied(l)
	for i, n := range l {
		cond[i].Kinds = copied(n.Kinds)
	}
	return cond
}

// copied always makes new memory: slices.Clone keeps the memory of an empty list.
func copied[E any](l []E) []E { return append([]E(nil), l...) }
